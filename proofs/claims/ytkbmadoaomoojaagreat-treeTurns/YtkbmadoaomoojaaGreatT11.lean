/-
  Facts that the proof rests on, part 12. Conditions: those that each of them names.
-/
import Derived.BigQuiet
import Derived.Deep.MidRow
import Derived.Deep.QuietTactic
import Derived.Deep.WholeRow
import Derived.Laws.ResultCell
import Derived.Test.YtkbmadoaomoojaaGreatT00
import Derived.Test.YtkbmadoaomoojaaGreatT05
import Derived.Test.YtkbmadoaomoojaaGreatT06
import Derived.Test.YtkbmadoaomoojaaGreatT08
import Derived.Test.YtkbmadoaomoojaaGreatT09
import Derived.Test.YtkbmadoaomoojaaGreatT10
namespace Go.Proofs.YtkbmadoaomoojaaGreat
set_option maxHeartbeats 16000000
set_option maxRecDepth 20000
open Go.RowKit
set_option linter.unusedVariables false
def q4Z (k : Nat) : List Value := (List.range 16).map fun i => .int .u32 ((if i < k then Crc.steps 4 i else 0 : Nat) : Int)
theorem q2x (k : Nat) : (q4Z k).length = 16 := by simp [q4Z]
theorem qIX (k i : Nat) (hi : i < 16) : (q4Z k)[i]? = some (.int .u32 ((if i < k then Crc.steps 4 i else 0 : Nat) : Int)) := by
 simp [q4Z, List.getElem?_range hi]
theorem halfs_set (k : Nat) (hk : k < 16) : (q4Z k).set k (.int .u32 (Crc.steps 4 k : Nat)) = q4Z (k + 1) := by
 apply List.ext_getElem?
 intro i
 rw [List.getElem?_set]
 by_cases hi : i < 16
 · rw [qIX _ i hi, qIX _ i hi, q2x]
   by_cases e : k = i
   · subst e; simp [hk]
   · simp only [if_neg e]
     by_cases h : i < k
     · simp [h, show i < k + 1 from by omega]
     · simp [h, show ¬ i < k + 1 from by omega]
 · rw [List.getElem?_eq_none (l := q4Z k) (by rw [q2x]; omega), List.getElem?_eq_none (l := q4Z (k + 1)) (by rw [q2x]; omega), q2x]
   by_cases e : k = i
   · omega
   · simp [e]
theorem qCx : (Tryz.prog.info? 219).map (fun i => i.size) = some 16 := by kernel_rfl
theorem range_zero (w : World) (o : Obj) : ((w.alloc o).alloc (.cells (q4Z 0).toArray 219)).rangeAt (w.heap.size + 1) 0 (q4Z 0) := by
 intro j v hv
 rw [Nat.zero_add]
 have := cell_of_row ((w.alloc o).alloc (.cells (q4Z 0).toArray 219)) (w.heap.size + 1) j (q4Z 0).toArray 219 (0, 0) (by simpa only [World.size_alloc] using heap_alloc_last (w.alloc o) (.cells (q4Z 0).toArray 219))
 rw [this]
 simpa using hv
theorem qNX (w : World) (c : Array Value) (t : TypeId) : (w.alloc (.cells c t)).there w.heap.size 0 c.size := by
 intro j hj
 have := cell_of_row (w.alloc (.cells c t)) w.heap.size j c t (0, 0) (heap_alloc_last w _)
 rw [Nat.zero_add, this]
 refine ⟨by simp [hj], ?_⟩
 simp
theorem range_set {w : World} {b k : Nat} (hk : k < 16) (h : w.rangeAt b 0 (q4Z k)) : (w.setCell ⟨b, k, none⟩ (.int .u32 (Crc.steps 4 k : Nat))).rangeAt b 0 (q4Z (k + 1)) := by
 intro j v hv
 rw [Nat.zero_add]
 have hj : j < 16 := by have := (List.getElem?_eq_some_iff.1 hv).1; rw [q2x] at this; exact this
 have hc : ∀ i, i < 16 → ∃ u, (q4Z k)[i]? = some u ∧ w.cell? ⟨b, i, none⟩ = some u := by
  intro i hi
  have e := qIX k i hi
  exact ⟨_, e, by have := h i _ e; rwa [Nat.zero_add] at this⟩
 rw [← halfs_set k hk, List.getElem?_set] at hv
 by_cases e : k = j
 · subst e
   obtain ⟨u, _, hu⟩ := hc k hk
   rw [World.cell?_setCell_same _ _ _ hu]
   simpa [q2x, hk] using hv
 · rw [if_neg e] at hv
   obtain ⟨u, e1, hu⟩ := hc j hj
   rw [World.cell?_setCell_other _ _ _ _ (fun h => e (Addr.mk.inj h).2.1), hu, ← e1, hv]
theorem there_set {w : World} {b n : Nat} (h : w.there b 0 n) (x : Addr) (v : Value) : (w.setCell x v).there b 0 n := by
 intro j hj
 obtain ⟨h1, h2⟩ := h j hj
 refine ⟨?_, by rw [World.frozen?_setCell]; exact h2⟩
 obtain ⟨u, hu⟩ := Option.isSome_iff_exists.1 h1
 by_cases e : x = ⟨b, 0 + j, none⟩
 · subst e; rw [World.cell?_setCell_same _ _ _ hu]; rfl
 · rw [World.cell?_setCell_other _ _ _ _ e, hu]; rfl
theorem halfs_one (k : Nat) : ∀ v ∈ q4Z k, v.oneCell' = true := by
 intro v hv
 simp only [q4Z, List.mem_map] at hv
 obtain ⟨i, _, rfl⟩ := hv
 rfl
theorem qAX {B b : Nat} {a : World} (hb : B ≤ b) : ∀ (vs : List Value) (o : Nat) {w : World}, Below B a w → Below B a (w.setCells b o vs)
 | [], _, _, h => h
 | v :: r, o, w, h => qAX hb r (o + 1) (h.setCell (p := ⟨b, o, none⟩) hb v)
theorem qWQ {fn : Func} {p : Tmp} {ty : TypeId} {tmps : Array Value} {w : World} {b : Nat} {cs : List Value} {d : TypeDesc} (h : fn.results = #[.cell p ty]) (hp : tmps.getD p undef = .pointer (some ⟨b, 0, none⟩))
 (hc : w.rangeAt b 0 cs) (hu : Tryz.prog.underlying ty = some d) (hd : d.isRow = true) (hi : (Tryz.prog.info? ty).map (·.size) = some cs.length) :
 (results fn tmps).run Tryz.prog w = .ok (.agg cs.toArray) w := by
 have hp' : tmps[p]?.getD undef = .pointer (some ⟨b, 0, none⟩) := by simpa using hp
 simp [results, h, hp', asAddr, run_loadVar_mid w b 0 ty cs d hc hu hd hi]
def Filled (w wr : World) (k : Nat) : Prop := Hid (wr.rangeAt (w.heap.size + 1) 0 (q4Z k) ∧ wr.there w.heap.size 0 16 ∧ wr.there (w.heap.size + 1) 0 16 ∧ Below w.heap.size w wr)
theorem fill {w wr : World} {k : Nat} (hk : k < 16) (h : wr.rangeAt (w.heap.size + 1) 0 (q4Z k) ∧ wr.there w.heap.size 0 16 ∧ wr.there (w.heap.size + 1) 0 16 ∧ Below w.heap.size w wr) :
 Filled w (wr.setCell ⟨w.heap.size + 1, k, none⟩ (.int .u32 (Crc.steps 4 k : Nat))) (k + 1) := by
 obtain ⟨h1, h2, h3, h4⟩ := h
 exact ⟨range_set hk h1, there_set h2 _ _, there_set h3 _ _, h4.setCell (p := ⟨w.heap.size + 1, k, none⟩) (Nat.le_succ _) _⟩
theorem steps_succ (j c : Nat) : Crc.steps (j + 1) c = Crc.step (Crc.steps j c) := by
 rw [Crc.steps_add]; rfl
theorem halves_u (w : World) : Calls Tryz.prog 150 #[] w fun e w' => e = .returned (.agg (q4Z 16).toArray) ∧ Below w.heap.size w w' := by
 have hr0 := range_zero w (.cells (q4Z 0).toArray 219)
 have ht0 : ((w.alloc (.cells (q4Z 0).toArray 219)).alloc (.cells (q4Z 0).toArray 219)).there w.heap.size 0 16 := World.there_alloc (qNX w (q4Z 0).toArray 219) _
 have ht1 : ((w.alloc (.cells (q4Z 0).toArray 219)).alloc (.cells (q4Z 0).toArray 219)).there (w.heap.size + 1) 0 16 := by
  have := qNX (w.alloc (.cells (q4Z 0).toArray 219)) (q4Z 0).toArray 219
  simpa [q2x] using this
 have hb0 : Below w.heap.size w ((w.alloc (.cells (q4Z 0).toArray 219)).alloc (.cells (q4Z 0).toArray 219)) := ((Below.refl _ _).alloc (zw0 _) _).alloc (by simp) _
 have H0 : Hid (_ ∧ _ ∧ _ ∧ _) := ⟨hr0, ht0, ht1, hb0⟩
 clear hr0 ht0 ht1 hb0
 go_enter Tryz.func150, Tryz.ntmps150
 go_wp2
 go_loopw [5] (fun i wr => ∃ k : Nat, k ≤ 16 ∧ i = .int .i64 k ∧ Filled w wr k)
  (fun i _ => 16 - (intOf i).toNat)
 case atStart => exact ⟨0, Nat.zero_le _, rfl, H0⟩
 case round =>
  obtain ⟨k, hk, rfl, HK⟩ := hrel
  clear H0
  by_cases hlt : k < 16
  · have hw : IntKind.u32.wrap (k : Int) = (k : Int) := by simp [IntKind.wrap, IntKind.bits, IntKind.signed]; omega
    go_wp2
    clear hw
    go_loop [3, 10] (fun v i => ∃ (j y : Nat), j ≤ 4 ∧ i = .int .i64 j ∧ v = .int .u32 y ∧ y < 4294967296 ∧ Hid (y = Crc.steps j k))
     (fun _ i => 4 - (intOf i).toNat)
    case atStart => exact ⟨0, k, Nat.zero_le _, rfl, rfl, by omega, rfl⟩
    case round =>
     obtain ⟨j, y, hj, rfl, rfl, hy, HY⟩ := hrel
     by_cases hj8 : j < 4
     · have hstep : Crc.steps (j + 1) k = Crc.step y := by rw [steps_succ, ← HY.out]
       have hylt := Crc.step_lt hy
       have HST : Hid _ := hstep
       clear hstep
       by_cases ho : y % 2 = 1
       · have hob := odd_bit y hy ho
         have hxy : bits BinOp.xor IntKind.u32 ((y : Int) / 2) 2197175160 = ((Crc.step y : Nat) : Int) := by
          have h1 := u32_xor_nat (y / 2) 2197175160 (by omega) (by decide)
          have h2 : Crc.step y = (y / 2) ^^^ 2197175160 := by unfold Crc.step; rw [if_pos ho]
          rw [h2]
          simpa using h1
         have HXY : Hid _ := hxy
         clear hxy ho
         go_wp2
         go_round
         case rel => exact ⟨j + 1, Crc.step y, by omega, by go_num, by rw [HXY.out], hylt, HST.out.symm⟩
         case measure => simp [intOf]; omega
       · have hob := even_bit y hy ho
         have hst : Crc.step y = y / 2 := by unfold Crc.step; rw [if_neg ho]
         have HSY : Hid _ := hst
         clear hst ho
         go_wp2
         go_round
         case rel => exact ⟨j + 1, y / 2, by omega, by go_num, by go_num, by omega, by unfold Hid; rw [HST.out, HSY.out]⟩
         case measure => simp [intOf]; omega
     · have e : j = 4 := by omega
       subst e
       obtain ⟨hr, ht0, ht1, hb⟩ := Hid.out HK
       obtain ⟨hs1, hf⟩ := ht1 k hlt
       rw [Nat.zero_add] at hs1 hf
       obtain ⟨u, hu⟩ := Option.isSome_iff_exists.1 hs1
       have H1 := fill hlt (Hid.out HK)
       rw [← HY.out] at H1
       clear hr ht0 ht1 hb hs1 HK
       go_wp2
       go_roundw
       case rel => exact ⟨k + 1, by omega, by go_num, H1⟩
       case measure => simp [intOf]; omega
  · have e : k = 16 := by omega
    subst e
    obtain ⟨hr, ht0, ht1, hb⟩ := Hid.out HK
    have HB : Hid _ := hb
    have hl := q2x 16
    have ho := halfs_one 16
    clear HK ht1 hb
    generalize hH : q4Z 16 = H at *
    have HH : Hid _ := hH
    clear hH
    go_wp2_with (first
     | refine wpList_load_mid rfl 219 _ rfl _ 0 rfl H _ hr Tryz.underlying219 rfl (by rw [hl]; exact qCx) ?_
     | refine wpList_store_mid rfl 219 _ _ rfl _ 0 H.toArray rfl rfl (by simpa [hl] using ht0) (by simpa [hl] using qCx) (all_oneCell_toArray ho) ?_)
    have hgot := World.rangeAt_setCells_same wr w.heap.size 0 H (by rw [hl]; exact ht0)
    rw [HH.out]
    refine bodyPost_ret (v := .agg H.toArray) ?_ rfl ⟨rfl, qAX (zw0 _) H 0 HB.out⟩
    exact qWQ rfl rfl hgot Tryz.underlying219 rfl (by rw [hl]; exact qCx)
def IsTable (H : List Value) : Prop := H.length = 16 ∧ (∀ v ∈ H, v.oneCell' = true) ∧ ∀ i, i < 16 → H[i]? = some (.int .u32 (Crc.steps 4 i : Nat))
theorem isTable : IsTable (q4Z 16) := ⟨q2x 16, halfs_one 16, fun i hi => by rw [qIX 16 i hi, if_pos hi]⟩
theorem table_u (w : World) : Calls Tryz.prog 150 #[] w fun e w' => ∃ H, e = .returned (.agg H.toArray) ∧ IsTable H ∧ Below w.heap.size w w' := by
 refine (halves_u w).mono ?_
 rintro e w' ⟨rfl, hb⟩
 exact ⟨q4Z 16, rfl, isTable, hb⟩
def TableAt (w : World) (B : Nat) : Prop := Hid (∀ i, i < 16 → w.cell? ⟨B, i, none⟩ = some (.int .u32 (Crc.steps 4 i : Nat)))
theorem table_laid (w : World) (H : List Value) (hH : IsTable H) (C : Array Value) (hC : C.size = 16) :
 (w.alloc (.cells C 219)).there w.heap.size 0 H.toArray.size ∧ TableAt ((w.alloc (.cells C 219)).setCells w.heap.size 0 H) w.heap.size := by
 obtain ⟨h1, _, h3⟩ := hH
 have ht := qNX w C 219
 rw [hC] at ht
 have he : H.toArray.size = 16 := by rw [List.size_toArray, h1]
 refine ⟨by rw [he]; exact ht, fun i hi => ?_⟩
 have h := World.rangeAt_setCells_same (w.alloc (.cells C 219)) w.heap.size 0 H (by rw [h1]; exact ht)
 have := h i _ (h3 i hi)
 rw [Nat.zero_add] at this
 exact this
def SumSaid : Prop := ∀ (w : World) (a : Option Addr) (n cap : Nat) (l : List UInt8), n ≤ 140737488355328 → n ≤ cap → IsB w a n l →
 Calls Tryz.prog 137 #[.slice a n cap] w fun e w' => e = .returned (.int .u32 (Crc.sum l : Nat)) ∧ Below w.heap.size w w'
def SealSaid : Prop := ∀ (w : World) (a : Option Addr) (n cap : Nat) (l : List UInt8), n ≤ 140737488351232 → n ≤ cap → (a = none → cap = 0) → IsB w a n l →
 Calls Tryz.prog 130 #[.slice a n cap] w fun e w' => ∃ b d, e = .returned (.slice b (n + 4) d) ∧
  w'.ownsRow w.heap.size 5 1 (.slice b (n + 4) d) (n + 4) (cellsOf (Crc.sealed l)) ∧ Below w.heap.size w w'
def OpenSaid : Prop := ∀ (w : World) (a : Option Addr) (n cap : Nat) (l : List UInt8), n ≤ 140737488351236 → n ≤ cap → (a = none → cap = 0) → IsB w a n l →
 Calls Tryz.prog 122 #[.slice a n cap] w fun e w' => ∃ b len d, e = .returned (.tuple #[.slice b len d, .int .i64 (Crc.openE l)]) ∧
  w'.ownsRow w.heap.size 5 1 (.slice b len d) len (cellsOf (Crc.openL l)) ∧ Below w.heap.size w w'
def MoreSaid : Prop := ∀ (w : World) (c : Nat) (a : Option Addr) (n cap : Nat) (l : List UInt8), c < 4294967296 → n ≤ 140737488355328 → n ≤ cap → IsB w a n l →
 Calls Tryz.prog 145 #[.int .u32 c, .slice a n cap] w fun e w' => e = .returned (.int .u32 (Crc.more c l : Nat)) ∧ Below w.heap.size w w'
theorem half_step (y : Nat) (hy : y < 4294967296) : bits BinOp.xor IntKind.u32 ((y : Int) / 16) ((Crc.steps 4 (y % 16) : Nat) : Int) = ((Crc.steps 4 y : Nat) : Int) := by
 rw [show (y : Int) / 16 = ((y / 16 : Nat) : Int) from by simp, u32_xor_nat _ _ (by omega) (Crc.steps_lt 4 (by omega))]
 have := Crc.steps_split 4 y
 rw [show (2 : Nat) ^ 4 = 16 from rfl] at this
 rw [this]
theorem more_said : MoreSaid := by
 intro w c a n cap l hc hn hcap hB
 have hl := hB.1
 have hnc := qXZ c hc
 have hd : 4294967295 - c < 4294967296 := by omega
 have hs : Crc.more c l = 4294967295 - Crc.run (4294967295 - c) l := by unfold Crc.more; rfl
 have HS : Hid _ := hs
 clear hs
 generalize 4294967295 - c = d at *
 have HR0 : Hid (d = Crc.run d (l.take 0)) := by unfold Hid; rw [List.take_zero, Crc.run_nil]
 go_enter Tryz.func145, Tryz.ntmps145
 go_wp2_with fail
 refine (table_u w).mono ?_
 rintro e w1 ⟨H, rfl, hH, b1⟩
 have hz := b1.size
 obtain ⟨ht, hT⟩ := table_laid w1 H hH #[.int .u32 0, .int .u32 0, .int .u32 0, .int .u32 0, .int .u32 0, .int .u32 0, .int .u32 0, .int .u32 0, .int .u32 0, .int .u32 0, .int .u32 0, .int .u32 0, .int .u32 0, .int .u32 0, .int .u32 0, .int .u32 0] rfl
 have hi : (Tryz.prog.info? 219).map (·.size) = some H.toArray.size := by
  rw [List.size_toArray, hH.1]; exact qCx
 have ho := all_oneCell_toArray hH.2.1
 have b2 := qAX hz H 0 (b1.alloc hz (.cells #[.int .u32 0, .int .u32 0, .int .u32 0, .int .u32 0, .int .u32 0, .int .u32 0, .int .u32 0, .int .u32 0, .int .u32 0, .int .u32 0, .int .u32 0, .int .u32 0, .int .u32 0, .int .u32 0, .int .u32 0, .int .u32 0] 219))
 have hB2 := hB.below b2
 clear hH b1 hB
 go_wp2_with (refine wpList_store_mid rfl 219 _ _ rfl _ 0 H.toArray rfl rfl ht hi ho ?_)
 clear ht hi ho
 generalize (w1.alloc (.cells #[.int .u32 0, .int .u32 0, .int .u32 0, .int .u32 0, .int .u32 0, .int .u32 0, .int .u32 0, .int .u32 0, .int .u32 0, .int .u32 0, .int .u32 0, .int .u32 0, .int .u32 0, .int .u32 0, .int .u32 0, .int .u32 0] 219)).setCells w1.heap.size 0 H = w2 at *
 clear hz
 generalize w1.heap.size = B at *
 go_loop [6, 14] (fun v i => ∃ (k r : Nat), k ≤ n ∧ i = .int .i64 k ∧ v = .int .u32 r ∧ r < 4294967296 ∧ Hid (r = Crc.run d (l.take k)))
  (fun _ i => n - (intOf i).toNat)
 case atStart => exact ⟨0, d, Nat.zero_le _, rfl, rfl, hd, HR0⟩
 case round =>
  obtain ⟨k, r, hk, rfl, rfl, hr, HR⟩ := hrel
  clear HR0 hnc
  by_cases hlt : k < n
  · obtain ⟨b, off, rfl, hcell⟩ := hB2.place (by omega)
    have d1 := hcell k (by omega)
    have hx : (l[k]'(by omega)).toNat < 256 := by have := (l[k]'(by omega)).toNat_lt; simpa using this
    have hnext : Crc.run d (l.take (k + 1)) = Crc.steps 4 (Crc.steps 4 (Crc.run d (l.take k) ^^^ (l[k]'(by omega)).toNat)) := by
     rw [List.take_succ_eq_append_getElem (by omega), Crc.run_append, Crc.run_cons, Crc.run_nil, ← Crc.steps_add]
    rw [← HR.out] at hnext
    generalize (l[k]'(by omega)).toNat = x at *
    have HN : Hid _ := hnext
    clear hnext hcell hB2
    have hw8 : IntKind.u32.wrap (x : Int) = (x : Int) := by simp [IntKind.wrap, IntKind.bits, IntKind.signed]; omega
    have hxor := u32_xor_nat r x hr (by omega)
    have hlt0 := Crc.xor_lt hr (show x < 4294967296 by omega)
    generalize r ^^^ x = y0 at *
    have hc1 := Hid.out hT (y0 % 16) (Nat.mod_lt _ (by decide))
    have hs1 := half_step y0 hlt0
    have hlt1 := Crc.steps_lt 4 hlt0
    generalize Crc.steps 4 y0 = y1 at *
    have hc2 := Hid.out hT (y1 % 16) (Nat.mod_lt _ (by decide))
    have hs2 := half_step y1 hlt1
    have hlt2 := Crc.steps_lt 4 hlt1
    generalize Crc.steps 4 y1 = y2 at *
    generalize Crc.steps 4 (y0 % 16) = z0 at *
    generalize Crc.steps 4 (y1 % 16) = z1 at *
    clear hT
    go_wp2
    go_round
    case rel => exact ⟨k + 1, y2, by omega, by go_num, rfl, hlt2, by unfold Hid; rw [HN.out]⟩
    case measure => simp [intOf]; omega
  · have e : k = n := by omega
    subst e
    have h1 := HR.out
    rw [List.take_of_length_le (by omega)] at h1
    have hnot := qXZ r hr
    rw [h1, ← HS.out, ← h1] at hnot
    have HC : Hid _ := h1
    clear h1 HR HS hB2 hT
    go_wp2
    go_ret
    exact ⟨rfl, b2⟩
theorem sum_said : SumSaid := by
 intro w a n cap l hn hcap hB
 have hs : Crc.sum l = Crc.more 0 l := by unfold Crc.more Crc.sum; rfl
 rw [hs]
 go_enter Tryz.func137, Tryz.ntmps137
 go_wp2_with fail
 refine (more_said w 0 a n cap l (by decide) hn hcap hB).mono ?_
 rintro e w1 ⟨rfl, b1⟩
 go_wp2
 go_ret
 exact ⟨rfl, b1⟩
theorem qYz (c : Nat) : Crc.le4 c = Oct.octs c 4 := by
 unfold Crc.le4
 simp only [Oct.octs]
 simp [Nat.div_div_eq_div_mul]
theorem seal_said : SealSaid := by
 intro w a n cap l hn hcap hnil hB
 have hs := Crc.sum_lt l
 have hp : Oct.putE (Crc.sum l) 4 = 0 ∧ Oct.putL (Crc.sum l) 4 = Crc.le4 (Crc.sum l) := by
  have h1 := Oct.putE_ok (n := Crc.sum l) (s := 4) (by decide) (by decide) (by simpa using hs)
  have h2 := Oct.putL_ok (n := Crc.sum l) (s := 4) (by decide) (by decide) (by simpa using hs)
  exact ⟨h1, by rw [qYz]; exact h2⟩
 have HP : Hid _ := hp
 have HL : Hid (Crc.sealed l = l ++ Crc.le4 (Crc.sum l)) := by unfold Hid Crc.sealed; rfl
 clear hp
 obtain ⟨i0, hi, hz0, hz1, hz2⟩ := info_parts qAZ
 go_enter Tryz.func130, Tryz.ntmps130
 go_wp2_with fail
 refine (sum_said w a n cap l (by omega) hcap hB).mono ?_
 rintro e w1 ⟨rfl, b1⟩
 generalize Crc.sum l = c at *
 have hw : IntKind.u64.wrap (c : Int) = (c : Int) := by simp [IntKind.wrap, IntKind.bits, IntKind.signed]; omega
 go_wp2_with fail
 refine (put_u c _ 4 rfl w1).mono ?_
 rintro e w2 ⟨b, ln, d, rfl, ho2, b2⟩
 rw [HP.out.1]
 rw [HP.out.2] at ho2
 obtain ⟨hB2, hd2, hn2⟩ := q4x ho2
 have hl4 : ln = 4 := by have := hB2.1; simp [Crc.le4] at this; omega
 subst hl4
 have c2 := on b1 b2
 have hA2 := hB.below c2
 have HN2 : Hid _ := hn2
 have HN : Hid _ := hnil
 have hz := c2.size
 clear hw b1 b2 ho2 hn2 hnil hB HP hs
 go_wp2_with (at_make; refine wpList_make_own _ rfl _ _ 53 rfl w2.heap.size 5 i0 (.int .u8 0) 1 Tryz.underlying53 hi hz0 hz1 _ _ _ (n + 4) rfl rfl (by omega) ?b2 ?b3 (zw0 _) ?_)
 case b2 => rw [hz2]; omega
 case b3 => unfold maxLen; omega
 intro w3 ho3 hg3
 have b3 : Below w2.heap.size w2 w3 := (Below.refl _ _).grown hg3 (zw0 _) (fun k h => by cases h)
 have hz3 := b3.size
 have hA3 := hA2.below b3
 go_wp2_with (at_builtin; refine q5Z rfl _ _ rfl w2.heap.size _ 0 [] rfl ho3 _ n cap l rfl hA3 HN.out (by omega) hz3 ?_)
 intro b4 d4 w4 ho4 hg4
 have c4 : Below w2.heap.size w2 w4 := b3.grown hg4 hz3 (fun k h => q6q ho3 k h)
 clear hg4 hg3 ho3 b3 hA3 hA2 hz3
 have hB4 := hB2.below c4
 have hz4 := c4.size
 go_wp2_with (at_builtin; refine q5Z rfl _ _ rfl w2.heap.size _ n l rfl ho4 _ 4 d _ rfl hB4 HN2.out (by omega) hz4 ?_)
 intro b5 d5 w5 ho5 hg5
 rw [← HL.out] at ho5
 have c5 : Below w2.heap.size w2 w5 := c4.grown hg5 hz4 (fun k h => q6q ho4 k h)
 go_wp2
 go_ret
 exact ⟨b5, d5, rfl, q9q ho5 hz, c2.trans (c5.mono hz)⟩
theorem num_le4 (c : Nat) (hc : c < 4294967296) : Oct.num (Crc.le4 c) = c := by
 rw [qYz]; exact Oct.num_octs c 4 (by simpa using hc)
theorem le4_num (l : List UInt8) (h : l.length = 4) : Crc.le4 (Oct.num l) = l := by
 rw [qYz, ← h]; exact Oct.octs_num l
theorem cut_tail (l : List UInt8) (h : 4 ≤ l.length) : l.take (l.length - 4) ++ Oct.cut l (l.length - 4) 4 = l := by
 have e : Oct.cut l (l.length - 4) 4 = l.drop (l.length - 4) := by
  unfold Oct.cut
  exact List.take_of_length_le (by rw [List.length_drop]; omega)
 rw [e, List.take_append_drop]
theorem sum_stands (l : List UInt8) (h : 4 ≤ l.length) : (Oct.num (Oct.cut l (l.length - 4) 4) = Crc.sum (l.take (l.length - 4))) ↔ Crc.sealed (l.take (l.length - 4)) = l := by
 have e := cut_tail l h
 have hlen : (Oct.cut l (l.length - 4) 4).length = 4 := Oct.cut_length l _ 4 (by omega)
 constructor
 · intro hs
   unfold Crc.sealed
   rw [← hs, le4_num _ hlen, e]
 · intro hs
   unfold Crc.sealed at hs
   have h1 : Crc.le4 (Crc.sum (l.take (l.length - 4))) = Oct.cut l (l.length - 4) 4 := List.append_cancel_left (hs.trans e.symm)
   rw [← h1, num_le4 _ (Crc.sum_lt _)]
theorem open_short (w : World) (a : Option Addr) (n cap : Nat) (h : n < 4) :
 Calls Tryz.prog 122 #[.slice a n cap] w fun e w' => e = .returned (.tuple #[.slice none 0 0, .int .i64 8]) ∧ w = w' := by
 go_enter Tryz.func122, Tryz.ntmps122
 go_wp2
 go_ret2
 exact ⟨rfl, rfl⟩
theorem open_in (w : World) (a : Option Addr) (n cap : Nat) (l : List UInt8) (h4 : 4 ≤ n) (hn : n ≤ 140737488351236) (hcap : n ≤ cap) (hB : IsB w a n l) :
 Calls Tryz.prog 122 #[.slice a n cap] w fun e w' => ∃ b len d, e = .returned (.tuple #[.slice b len d, .int .i64 (Crc.openE l)]) ∧
  w'.ownsRow w.heap.size 5 1 (.slice b len d) len (cellsOf (Crc.openL l)) ∧ Below w.heap.size w w' := by
 have hl : l.length = n := hB.1
 have hcs := Crc.openE_cases l
 have hst := sum_stands l (by omega)
 rw [hl] at hcs hst
 have HCS : Hid _ := hcs
 have HST : Hid _ := hst
 have hlt : Oct.num (Oct.cut l (n - 4) 4) < 18446744073709551616 := by
  have := Oct.num_cut_lt l (n - 4) 4 (by omega)
  omega
 have hsl := Crc.sum_lt (l.take (n - 4))
 obtain ⟨b, off, rfl, -⟩ := hB.place (by omega)
 have hH := hB.head (n - 4) (by omega) (by omega)
 have hneg : ¬ ((n : Int) - 4 < 0) := by omega
 clear hcs hst
 go_enter Tryz.func122, Tryz.ntmps122
 go_wp2_with fail
 refine (get_ok w _ n cap l (n - 4) 4 _ _ (by omega) rfl (by omega) (by omega) (by unfold maxLen; omega) hB (by omega)).mono ?_
 rintro e w1 ⟨rfl, b1⟩
 have hH1 := hH.below b1
 generalize Oct.num (Oct.cut l (n - 4) 4) = s at *
 clear hH hB
 go_wp2_with fail
 refine (sum_said w1 _ (n - 4) cap _ (by omega) (by omega) hH1).mono ?_
 rintro e w2 ⟨rfl, b2⟩
 have c2 := on b1 b2
 have hH2 := hH1.below b2
 have hz2 := c2.size
 clear b1 b2 hH1
 generalize Crc.sum (l.take (n - 4)) = c at *
 have hw : IntKind.u64.wrap (c : Int) = (c : Int) := by simp [IntKind.wrap, IntKind.bits, IntKind.signed]; omega
 rcases HCS.out with ⟨g, _⟩ | ⟨_, g, e1, e2⟩ | ⟨_, g, e1, e2⟩
 · omega
 · have e := HST.out.2 g
   subst e
   have E1 : Hid _ := e1
   have E2 : Hid _ := e2
   clear e1 e2 g HST HCS
   have ho0 : (w2.alloc (.cells #[] 5)).ownsRow w2.heap.size 5 1 (.slice (some ⟨w2.heap.size, 0, none⟩) 0 0) 0 (cellsOf []) :=
    World.ownsRow_lit (base := w2.heap.size) (e := 5) (size := 1) w2 #[] 0 (zw0 _) (by decide) rfl
   have b3 : Below w2.heap.size w2 (w2.alloc (.cells #[] 5)) := (Below.refl _ _).alloc (zw0 _) _
   have hH3 := hH2.below b3
   have hz3 := b3.size
   clear hH2
   go_wp2_with (at_builtin; refine q5Z rfl _ _ rfl w2.heap.size _ 0 [] rfl ho0 _ (n - 4) cap _ rfl hH3 (fun e => by cases e) (by omega) hz3 ?_)
   intro b4 d4 w4 ho4 hg4
   have c4 : Below w2.heap.size w2 w4 := b3.grown hg4 hz3 (fun k h => q6q ho0 k h)
   go_wp2
   go_ret2
   refine ⟨b4, n - 4, d4, by rw [E1.out]; rfl, ?_, c2.trans (c4.mono hz2)⟩
   rw [E2.out]
   exact q9q ho4 hz2
 · have hne : ((s : Int) != (c : Int)) = true := bne_iff_ne.2 (fun h => g (HST.out.1 (by omega)))
   have E1 : Hid _ := e1
   have E2 : Hid _ := e2
   clear e1 e2 g HST HCS
   go_wp2
   go_ret2
   exact ⟨none, 0, 0, by rw [E1.out]; rfl, by rw [E2.out]; exact q7J _ _, c2⟩
theorem qPQ : OpenSaid := by
 intro w a n cap l hn hcap hnil hB
 by_cases h : n < 4
 · have hl : l.length = n := hB.1
   rcases Crc.openE_cases l with ⟨_, e1, e2⟩ | ⟨g, _⟩ | ⟨g, _⟩
   · rw [e1, e2]
     refine (open_short w a n cap h).mono ?_
     rintro e w' ⟨rfl, rfl⟩
     exact ⟨none, 0, 0, rfl, q7J _ _, Below.refl _ _⟩
   · omega
   · omega
 · exact open_in w a n cap l (by omega) hn hcap hB
theorem fits8 (x : UInt64) : x.toNat < 256 ^ 8 := by
 have := x.toNat_lt
 simpa using this
theorem q3J {B gA gS : Nat} {w0 w w' : World} (h : Below B w0 w) (k : Kept (fun b => b < w.heap.size ∧ b ≠ gA ∧ b ≠ gS) w w') (hB : B ≤ w.heap.size) (ha : B ≤ gA) (hs : B ≤ gS) : Below B w0 w' :=
 h.trans ⟨k.os, k.tape, k.output, k.size, fun b hb => k.block b ⟨by omega, by omega, by omega⟩⟩
theorem kind_lt (n : Nod) : (Lf.kind n).toNat < 256 ^ 1 := by
 have := (Lf.kind n).toNat_lt
 simpa using this
set_option maxRecDepth 20000 in
theorem encode_leaf (w : World) (P P' : Nat → Prop) (a a' : Option Addr) (n c n' c' : Nat) (l : List Itm) (ks : List Int) (hL : rItms.rd w P [.slice a n c] l) (hK : rKids.rd w P' [.slice a' n' c'] ks) (hok : Lf.ok (l, ks) = true) (hlf : Lf.isLeaf (l, ks) = true) :
 Calls Tryz.prog 104 #[.agg #[.slice a n c, .slice a' n' c']] w fun e w' => ∃ b d, e = .returned (.tuple #[.slice b 64 d, .int .i64 0]) ∧ w'.ownsRow w.heap.size 5 1 (.slice b 64 d) 64 (cellsOf (Lf.enc (l, ks))) ∧ Below w.heap.size w w' := by
 have HOK : Hid _ := Lf.ok_iff.1 hok
 have HE0 : Hid (Lf.encodeE (l, ks) = 0) := if_pos hok
 have HLf : Hid _ := hlf
 have HR : Hid _ := hL
 have HK : Hid _ := hK
 have HN : Hid (l.length = n) := (q0x hL).1
 have HN' : Hid (ks.length = n') := (q0x hK).1
 have hn1 : 1 ≤ n := by have := HOK.out.some_; have e := HN.out; simp only at this; omega
 have hn3 : n ≤ 3 := by have := HOK.out.few; have e := HN.out; simp only at this; omega
 have hz0 : n' = 0 := by have := Lf.leaf_iff.1 hlf; rw [← HN'.out]; exact this
 have HKnil : Hid (ks = []) := List.length_eq_zero_iff.1 (HN'.out.trans hz0)
 have hz1 : n' ≤ 0 := by omega
 clear hz0
 obtain ⟨w0, hw0, V0, b0, z0⟩ := q0q w 63 [.slice a n c, .slice a' n' c']
 have HV0 : Hid _ := V0
 have B0 : Hid _ := b0
 clear hL hK V0 b0 z0 hok hlf
 go_enter Tryz.func104, Tryz.ntmps104
 obtain ⟨r0, r1⟩ := HV0.out.two
 go_wp2_with fail
 refine (check_u _ P P' a a' n c n' c' l ks (Rep.below HR.out B0.out) (Rep.below HK.out B0.out)).mono ?_
 rintro e w1 ⟨rfl, b1⟩
 rw [HE0.out]
 have HV1 : Hid _ := HV0.out.below b1
 have B1 : Hid _ := on B0.out b1
 clear r0 r1 b1
 go_wp2_with (at_make; refine qXX _ rfl _ _ 53 rfl 5 (.int .u8 0) 1 Tryz.underlying53 qAZ rfl 60 _ rfl rfl rfl (by decide) (by decide) ?_
              intro w2 HR2 b2 z2
              obtain ⟨w3, hw3, V3, b3, z3⟩ := q0q w2 53 [.slice (some ⟨w1.heap.size, 0, none⟩) 60 60]
              obtain ⟨w4, hw4, V4, b4, z4⟩ := q0q w3 3 [.int .i64 0]
              rw [z2] at V3 z3
              rw [z3] at V4
              have f4 := V4.frozen 0
              have c4 := V4.cell (j := 0) rfl
              obtain ⟨w5, hw5⟩ : ∃ w5, w4.setCell ⟨w1.heap.size + 1 + 1, 0, none⟩ (.int .i64 0) = w5 := ⟨_, rfl⟩
              have HP5 : Hid (Puts (w1.heap.size + 1 + 1) (w1.heap.size + 1) w1.heap.size w5 [] 0) := (by rw [← hw5]; exact ⟨rfl, V4.set 0 (.int .i64 0), (V3.below b4).setO (p := ⟨w1.heap.size + 1 + 1, 0, none⟩) (by show w1.heap.size + 1 + 1 ≠ _; omega) _, ((HR2.out.below b3).below b4).setO (p := ⟨w1.heap.size + 1 + 1, 0, none⟩) (by show w1.heap.size + 1 + 1 ≠ _; omega) _⟩)
              have B5 : Hid (Below w1.heap.size w1 w5) := (by rw [← hw5]; exact (on (on b2 b3) b4).setCell (p := ⟨w1.heap.size + 1 + 1, 0, none⟩) (by show w1.heap.size ≤ w1.heap.size + 1 + 1; omega) _)
              obtain ⟨r0, r1⟩ := (HV1.out.below B5.out).two
              clear V3 V4 b2 b3 b4 HR2 z4)
 refine (kindOf_u _ _ a' n' c' l ks HN'.out).mono ?_
 rintro e w6 ⟨rfl, b6⟩
 have HP6 : Hid _ := HP5.out.below b6
 have B6 : Hid _ := on B5.out b6
 clear r0 r1 b6 HP5 B5 c4 f4 hw3 hw4 hw5 z2 z3
 obtain ⟨r0, r1⟩ := (HV1.out.below B6.out).two
 go_wp2_with fail
 refine (qSQ _ (w1.heap.size + 1 + 1) (w1.heap.size + 1) w1.heap.size (by omega) (by omega) (by omega) _ _ HP6.out (Lf.kind (l, ks)).toNat 1 _ _ rfl rfl (by decide) (by decide) (kind_lt _) (by omega)).mono ?_
 rintro e w7 ⟨rfl, hp7, k7⟩
 have B7 : Hid (Below w1.heap.size w1 w7) := q3J B6.out k7 B6.out.size (by omega) (by omega)
 have HP7 : Hid _ := hp7
 clear r0 r1 hp7 k7 HP6 B6
 obtain ⟨r0, r1⟩ := (HV1.out.below B7.out).two
 go_wp2_with fail
 refine (qSQ _ (w1.heap.size + 1 + 1) (w1.heap.size + 1) w1.heap.size (by omega) (by omega) (by omega) _ _ HP7.out n 1 _ _ rfl rfl (by decide) (by decide) (Nat.lt_of_le_of_lt hn3 (by decide)) (by omega)).mono ?_
 rintro e w8 ⟨rfl, hp8, k8⟩
 have B8 : Hid (Below w1.heap.size w1 w8) := q3J B7.out k8 B7.out.size (by omega) (by omega)
 have HP8 : Hid _ := hp8
 clear r0 r1 hp8 k8 HP7 B7
 obtain ⟨r0, r1⟩ := (HV1.out.below B8.out).two
 go_wp2_with fail
 refine (qSQ _ (w1.heap.size + 1 + 1) (w1.heap.size + 1) w1.heap.size (by omega) (by omega) (by omega) _ _ HP8.out 0 2 _ _ rfl rfl (by decide) (by decide) (by decide) (by omega)).mono ?_
 rintro e w9 ⟨rfl, hp9, k9⟩
 have B9 : Hid (Below w1.heap.size w1 w9) := q3J B8.out k9 B8.out.size (by omega) (by omega)
 have HP9 : Hid (Puts (w1.heap.size + 1 + 1) (w1.heap.size + 1) w1.heap.size w9 (Lf.heads (l, ks)) 4) := by
  have h : Puts (w1.heap.size + 1 + 1) (w1.heap.size + 1) w1.heap.size w9 (Oct.octs (Lf.kind (l, ks)).toNat 1 ++ Oct.octs n 1 ++ Oct.octs 0 2) 4 := hp9
  rw [← HN.out] at h
  exact h
 clear r0 r1 hp9 k9 HP8 B8
 obtain ⟨r0, r1⟩ := (HV1.out.below B9.out).two
 go_wp2
 clear r0 r1
 go_loopw [36] (fun i wr => ∃ (k p : Nat), k ≤ n ∧ i = .int .i64 k ∧ p ≤ 28 ∧ Hid (p = 4 + 8 * k) ∧ Hid (Puts (w1.heap.size + 1 + 1) (w1.heap.size + 1) w1.heap.size wr (Lf.heads (l, ks) ++ (l.take k).flatMap Lf.key8) p) ∧ Below w1.heap.size w1 wr) (fun i _ => n - (intOf i).toNat)
 case atStart => exact ⟨0, 4, Nat.zero_le _, rfl, by omega, rfl, by rw [List.take_zero, List.flatMap_nil, List.append_nil]; exact HP9, B9.out⟩
 case round =>
  obtain ⟨k, p, hk, rfl, hp, HC, HP, bel⟩ := hrel
  by_cases hlt : k < n
  · have hkl : k < l.length := by rw [HN.out]; exact hlt
    have BW : Hid _ := on B1.out bel
    obtain ⟨g, off, rfl, -, -, hat⟩ := q0Z (Rep.below HR.out BW.out) (by omega)
    obtain ⟨c0, c1⟩ := hat k hkl
    have hkz : (k : Int) < (n : Int) := by omega
    obtain ⟨w3, hw3, V3, b3, z3⟩ := q0q wr 45 [.int .u64 (l[k].1.toNat : Int), .int .u64 (l[k].2.toNat : Int)]
    obtain ⟨y0, y1⟩ := V3.two
    have HP3 : Hid _ := HP.out.below b3
    have B3 : Hid (Below w1.heap.size w1 w3) := on bel b3
    clear V3 b3 z3 HP
    clear hat bel
    go_wp2_with fail
    refine (qSQ _ (w1.heap.size + 1 + 1) (w1.heap.size + 1) w1.heap.size (by omega) (by omega) (by omega) _ _ HP3.out (l[k].1.toNat) 8 _ _ rfl rfl (by decide) (by decide) (fits8 _) (by omega)).mono ?_
    rintro e w4 ⟨rfl, hp4, k4⟩
    have B4 : Hid (Below w1.heap.size w1 w4) := q3J B3.out k4 B3.out.size (by omega) (by omega)
    have HP4 : Hid (Puts (w1.heap.size + 1 + 1) (w1.heap.size + 1) w1.heap.size w4 (Lf.heads (l, ks) ++ (l.take (k + 1)).flatMap Lf.key8) (p + 8)) := by
     rw [Lf.flat_next _ hkl, ← List.append_assoc]
     exact hp4
    have HC4 : Hid (p + 8 = 4 + 8 * (k + 1)) := by have := HC.out; unfold Hid; omega
    have hp4b : p + 8 ≤ 28 := by have := HC4.out; omega
    clear hp4 k4 HP3
    go_wp2
    go_roundw
    case rel => exact ⟨k + 1, p + 8, by omega, by go_num, hp4b, HC4, HP4, B4.out⟩
    case measure => simp [intOf]; omega
  · obtain rfl : n = k := by omega
    have HPf : Hid (Puts (w1.heap.size + 1 + 1) (w1.heap.size + 1) w1.heap.size wr (Lf.heads (l, ks) ++ l.flatMap Lf.key8) p) := by have h := HP.out; rw [List.take_of_length_le (by rw [HN.out]; exact zw0 _)] at h; exact h
    clear HP
    obtain ⟨r0, r1⟩ := (HV1.out.below bel).two
    have BL : Hid _ := bel
    clear bel
    go_wp2_with fail
    refine (qMJ _ _ a' n' c' l ks HN'.out).mono ?_
    rintro e w5 ⟨rfl, b5⟩
    rw [HLf.out]
    have bel : Below w1.heap.size w1 w5 := on BL.out b5
    have HP5 : Hid _ := HPf.out.below b5
    clear b5 BL HPf r0 r1
    obtain ⟨r0, r1⟩ := (HV1.out.below bel).two
    go_wp2
    go_loopw [50] (fun i wr => ∃ (k p : Nat), k ≤ n ∧ i = .int .i64 k ∧ p ≤ 52 ∧ Hid (p = 4 + 8 * n + 8 * k) ∧ Hid (Puts (w1.heap.size + 1 + 1) (w1.heap.size + 1) w1.heap.size wr (Lf.heads (l, ks) ++ l.flatMap Lf.key8 ++ (l.take k).flatMap Lf.val8) p) ∧ Below w1.heap.size w1 wr) (fun i _ => n - (intOf i).toNat)
    case atStart => exact ⟨0, p, Nat.zero_le _, rfl, by omega, HC, by rw [List.take_zero, List.flatMap_nil, List.append_nil]; exact HP5, bel⟩
    case round =>
     obtain ⟨k, p, hk, rfl, hp, HC, HP, bel⟩ := hrel
     by_cases hlt : k < n
     · have hkl : k < l.length := by rw [HN.out]; exact hlt
       have BW : Hid _ := on B1.out bel
       obtain ⟨g, off, rfl, -, -, hat⟩ := q0Z (Rep.below HR.out BW.out) (by omega)
       obtain ⟨c0, c1⟩ := hat k hkl
       have hkz : (k : Int) < (n : Int) := by omega
       obtain ⟨w3, hw3, V3, b3, z3⟩ := q0q wr 45 [.int .u64 (l[k].1.toNat : Int), .int .u64 (l[k].2.toNat : Int)]
       obtain ⟨y0, y1⟩ := V3.two
       have HP3 : Hid _ := HP.out.below b3
       have B3 : Hid (Below w1.heap.size w1 w3) := on bel b3
       clear V3 b3 z3 HP
       clear hat bel
       go_wp2_with fail
       refine (qSQ _ (w1.heap.size + 1 + 1) (w1.heap.size + 1) w1.heap.size (by omega) (by omega) (by omega) _ _ HP3.out (l[k].2.toNat) 8 _ _ rfl rfl (by decide) (by decide) (fits8 _) (by omega)).mono ?_
       rintro e w4 ⟨rfl, hp4, k4⟩
       have B4 : Hid (Below w1.heap.size w1 w4) := q3J B3.out k4 B3.out.size (by omega) (by omega)
       have HP4 : Hid (Puts (w1.heap.size + 1 + 1) (w1.heap.size + 1) w1.heap.size w4 (Lf.heads (l, ks) ++ l.flatMap Lf.key8 ++ (l.take (k + 1)).flatMap Lf.val8) (p + 8)) := by
        rw [Lf.flat_next _ hkl, ← List.append_assoc]
        exact hp4
       have HC4 : Hid (p + 8 = 4 + 8 * n + 8 * (k + 1)) := by have := HC.out; unfold Hid; omega
       have hp4b : p + 8 ≤ 52 := by have := HC4.out; omega
       clear hp4 k4 HP3
       go_wp2
       go_roundw
       case rel => exact ⟨k + 1, p + 8, by omega, by go_num, hp4b, HC4, HP4, B4.out⟩
       case measure => simp [intOf]; omega
     · obtain rfl : n = k := by omega
       have HPz : Hid (Puts (w1.heap.size + 1 + 1) (w1.heap.size + 1) w1.heap.size wr (Lf.heads (l, ks) ++ l.flatMap Lf.key8 ++ l.flatMap Lf.val8) p) := by have h := HP.out; rw [List.take_of_length_le (by rw [HN.out]; exact zw0 _)] at h; exact h
       clear HP
       obtain ⟨r0, r1⟩ := (HV1.out.below bel).two
       go_wp2
       obtain ⟨wq, hwq⟩ : ∃ wq, wq = wr := ⟨_, rfl⟩
       subst hwq
       go_loopw [62] (fun i wr => i = .int .i64 0 ∧ wr = wq) (fun i _ => 0)
       case atStart => exact ⟨rfl, rfl⟩
       case round =>
        obtain ⟨rfl, rfl⟩ := hrel
        have hzz : ¬ (0 : Int) < (n' : Int) := by omega
        clear r0 r1
        obtain ⟨r2, -⟩ := (⟨HPz.out.box.cell (j := 0) rfl, trivial⟩ : _ ∧ True)
        have HS : Hid (IsB wr (some ⟨w1.heap.size, 0, none⟩) 60 ((Lf.heads (l, ks) ++ l.flatMap Lf.key8 ++ l.flatMap Lf.val8) ++ List.replicate (60 - p) 0)) := HPz.out.isB (by omega)
        have HEN : Hid (Crc.sealed ((Lf.heads (l, ks) ++ l.flatMap Lf.key8 ++ l.flatMap Lf.val8) ++ List.replicate (60 - p) 0) = Lf.enc (l, ks)) := by
         have hf : Lf.front (l, ks) = Lf.heads (l, ks) ++ l.flatMap Lf.key8 ++ l.flatMap Lf.val8 := (by rw [Lf.front_put (by show l.length ≤ 3; rw [HN.out]; exact hn3), HLf.out, show (l, ks).2 = [] from HKnil.out]; simp)
         unfold Hid Lf.enc Lf.body
         rw [hf, HPz.out.len]
        have BE : Hid _ := bel
        clear bel
        go_wp2_with fail
        refine (seal_said _ _ 60 _ _ (by decide) (by decide) (fun h => by cases h) HS.out).mono ?_
        rintro ey w9 ⟨b9, d9, rfl, ho9, bw9⟩
        rw [HEN.out] at ho9
        have HO : Hid _ := q9q ho9 (on B1.out BE.out).size
        clear ho9
        go_wp2
        go_ret2
        exact ⟨b9, d9, rfl, HO.out, on (on B1.out BE.out) bw9⟩
set_option maxRecDepth 20000 in
theorem encode_kids (w : World) (P P' : Nat → Prop) (a a' : Option Addr) (n c n' c' : Nat) (l : List Itm) (ks : List Int) (hL : rItms.rd w P [.slice a n c] l) (hK : rKids.rd w P' [.slice a' n' c'] ks) (hok : Lf.ok (l, ks) = true) (hlf : Lf.isLeaf (l, ks) = false) :
 Calls Tryz.prog 104 #[.agg #[.slice a n c, .slice a' n' c']] w fun e w' => ∃ b d, e = .returned (.tuple #[.slice b 64 d, .int .i64 0]) ∧ w'.ownsRow w.heap.size 5 1 (.slice b 64 d) 64 (cellsOf (Lf.enc (l, ks))) ∧ Below w.heap.size w w' := by
 have HOK : Hid _ := Lf.ok_iff.1 hok
 have HE0 : Hid (Lf.encodeE (l, ks) = 0) := if_pos hok
 have HLf : Hid _ := hlf
 have HR : Hid _ := hL
 have HK : Hid _ := hK
 have HN : Hid (l.length = n) := (q0x hL).1
 have HN' : Hid (ks.length = n') := (q0x hK).1
 have hn1 : 1 ≤ n := by have := HOK.out.some_; have e := HN.out; simp only at this; omega
 have hn3 : n ≤ 3 := by have := HOK.out.few; have e := HN.out; simp only at this; omega
 have hz0 : n' ≠ 0 := fun h => by have := Lf.leaf_iff.2 (show (l, ks).2.length = 0 from HN'.out.trans h); rw [hlf] at this; cases this
 have HKl : Hid (n' = n + 1) := by have := HOK.out.kids.resolve_left (by rw [hlf]; decide); have e1 := HN.out; have e2 := HN'.out; simp only at this; unfold Hid; omega
 have hn4 : n' ≤ 4 := by have := HKl.out; omega
 obtain ⟨w0, hw0, V0, b0, z0⟩ := q0q w 63 [.slice a n c, .slice a' n' c']
 have HV0 : Hid _ := V0
 have B0 : Hid _ := b0
 clear hL hK V0 b0 z0 hok hlf
 go_enter Tryz.func104, Tryz.ntmps104
 obtain ⟨r0, r1⟩ := HV0.out.two
 go_wp2_with fail
 refine (check_u _ P P' a a' n c n' c' l ks (Rep.below HR.out B0.out) (Rep.below HK.out B0.out)).mono ?_
 rintro e w1 ⟨rfl, b1⟩
 rw [HE0.out]
 have HV1 : Hid _ := HV0.out.below b1
 have B1 : Hid _ := on B0.out b1
 clear r0 r1 b1
 go_wp2_with (at_make; refine qXX _ rfl _ _ 53 rfl 5 (.int .u8 0) 1 Tryz.underlying53 qAZ rfl 60 _ rfl rfl rfl (by decide) (by decide) ?_
              intro w2 HR2 b2 z2
              obtain ⟨w3, hw3, V3, b3, z3⟩ := q0q w2 53 [.slice (some ⟨w1.heap.size, 0, none⟩) 60 60]
              obtain ⟨w4, hw4, V4, b4, z4⟩ := q0q w3 3 [.int .i64 0]
              rw [z2] at V3 z3
              rw [z3] at V4
              have f4 := V4.frozen 0
              have c4 := V4.cell (j := 0) rfl
              obtain ⟨w5, hw5⟩ : ∃ w5, w4.setCell ⟨w1.heap.size + 1 + 1, 0, none⟩ (.int .i64 0) = w5 := ⟨_, rfl⟩
              have HP5 : Hid (Puts (w1.heap.size + 1 + 1) (w1.heap.size + 1) w1.heap.size w5 [] 0) := (by rw [← hw5]; exact ⟨rfl, V4.set 0 (.int .i64 0), (V3.below b4).setO (p := ⟨w1.heap.size + 1 + 1, 0, none⟩) (by show w1.heap.size + 1 + 1 ≠ _; omega) _, ((HR2.out.below b3).below b4).setO (p := ⟨w1.heap.size + 1 + 1, 0, none⟩) (by show w1.heap.size + 1 + 1 ≠ _; omega) _⟩)
              have B5 : Hid (Below w1.heap.size w1 w5) := (by rw [← hw5]; exact (on (on b2 b3) b4).setCell (p := ⟨w1.heap.size + 1 + 1, 0, none⟩) (by show w1.heap.size ≤ w1.heap.size + 1 + 1; omega) _)
              obtain ⟨r0, r1⟩ := (HV1.out.below B5.out).two
              clear V3 V4 b2 b3 b4 HR2 z4)
 refine (kindOf_u _ _ a' n' c' l ks HN'.out).mono ?_
 rintro e w6 ⟨rfl, b6⟩
 have HP6 : Hid _ := HP5.out.below b6
 have B6 : Hid _ := on B5.out b6
 clear r0 r1 b6 HP5 B5 c4 f4 hw3 hw4 hw5 z2 z3
 obtain ⟨r0, r1⟩ := (HV1.out.below B6.out).two
 go_wp2_with fail
 refine (qSQ _ (w1.heap.size + 1 + 1) (w1.heap.size + 1) w1.heap.size (by omega) (by omega) (by omega) _ _ HP6.out (Lf.kind (l, ks)).toNat 1 _ _ rfl rfl (by decide) (by decide) (kind_lt _) (by omega)).mono ?_
 rintro e w7 ⟨rfl, hp7, k7⟩
 have B7 : Hid (Below w1.heap.size w1 w7) := q3J B6.out k7 B6.out.size (by omega) (by omega)
 have HP7 : Hid _ := hp7
 clear r0 r1 hp7 k7 HP6 B6
 obtain ⟨r0, r1⟩ := (HV1.out.below B7.out).two
 go_wp2_with fail
 refine (qSQ _ (w1.heap.size + 1 + 1) (w1.heap.size + 1) w1.heap.size (by omega) (by omega) (by omega) _ _ HP7.out n 1 _ _ rfl rfl (by decide) (by decide) (Nat.lt_of_le_of_lt hn3 (by decide)) (by omega)).mono ?_
 rintro e w8 ⟨rfl, hp8, k8⟩
 have B8 : Hid (Below w1.heap.size w1 w8) := q3J B7.out k8 B7.out.size (by omega) (by omega)
 have HP8 : Hid _ := hp8
 clear r0 r1 hp8 k8 HP7 B7
 obtain ⟨r0, r1⟩ := (HV1.out.below B8.out).two
 go_wp2_with fail
 refine (qSQ _ (w1.heap.size + 1 + 1) (w1.heap.size + 1) w1.heap.size (by omega) (by omega) (by omega) _ _ HP8.out 0 2 _ _ rfl rfl (by decide) (by decide) (by decide) (by omega)).mono ?_
 rintro e w9 ⟨rfl, hp9, k9⟩
 have B9 : Hid (Below w1.heap.size w1 w9) := q3J B8.out k9 B8.out.size (by omega) (by omega)
 have HP9 : Hid (Puts (w1.heap.size + 1 + 1) (w1.heap.size + 1) w1.heap.size w9 (Lf.heads (l, ks)) 4) := by
  have h : Puts (w1.heap.size + 1 + 1) (w1.heap.size + 1) w1.heap.size w9 (Oct.octs (Lf.kind (l, ks)).toNat 1 ++ Oct.octs n 1 ++ Oct.octs 0 2) 4 := hp9
  rw [← HN.out] at h
  exact h
 clear r0 r1 hp9 k9 HP8 B8
 obtain ⟨r0, r1⟩ := (HV1.out.below B9.out).two
 go_wp2
 clear r0 r1
 go_loopw [36] (fun i wr => ∃ (k p : Nat), k ≤ n ∧ i = .int .i64 k ∧ p ≤ 28 ∧ Hid (p = 4 + 8 * k) ∧ Hid (Puts (w1.heap.size + 1 + 1) (w1.heap.size + 1) w1.heap.size wr (Lf.heads (l, ks) ++ (l.take k).flatMap Lf.key8) p) ∧ Below w1.heap.size w1 wr) (fun i _ => n - (intOf i).toNat)
 case atStart => exact ⟨0, 4, Nat.zero_le _, rfl, by omega, rfl, by rw [List.take_zero, List.flatMap_nil, List.append_nil]; exact HP9, B9.out⟩
 case round =>
  obtain ⟨k, p, hk, rfl, hp, HC, HP, bel⟩ := hrel
  by_cases hlt : k < n
  · have hkl : k < l.length := by rw [HN.out]; exact hlt
    have BW : Hid _ := on B1.out bel
    obtain ⟨g, off, rfl, -, -, hat⟩ := q0Z (Rep.below HR.out BW.out) (by omega)
    obtain ⟨c0, c1⟩ := hat k hkl
    have hkz : (k : Int) < (n : Int) := by omega
    obtain ⟨w3, hw3, V3, b3, z3⟩ := q0q wr 45 [.int .u64 (l[k].1.toNat : Int), .int .u64 (l[k].2.toNat : Int)]
    obtain ⟨y0, y1⟩ := V3.two
    have HP3 : Hid _ := HP.out.below b3
    have B3 : Hid (Below w1.heap.size w1 w3) := on bel b3
    clear V3 b3 z3 HP
    clear hat bel
    go_wp2_with fail
    refine (qSQ _ (w1.heap.size + 1 + 1) (w1.heap.size + 1) w1.heap.size (by omega) (by omega) (by omega) _ _ HP3.out (l[k].1.toNat) 8 _ _ rfl rfl (by decide) (by decide) (fits8 _) (by omega)).mono ?_
    rintro e w4 ⟨rfl, hp4, k4⟩
    have B4 : Hid (Below w1.heap.size w1 w4) := q3J B3.out k4 B3.out.size (by omega) (by omega)
    have HP4 : Hid (Puts (w1.heap.size + 1 + 1) (w1.heap.size + 1) w1.heap.size w4 (Lf.heads (l, ks) ++ (l.take (k + 1)).flatMap Lf.key8) (p + 8)) := by
     rw [Lf.flat_next _ hkl, ← List.append_assoc]
     exact hp4
    have HC4 : Hid (p + 8 = 4 + 8 * (k + 1)) := by have := HC.out; unfold Hid; omega
    have hp4b : p + 8 ≤ 28 := by have := HC4.out; omega
    clear hp4 k4 HP3
    go_wp2
    go_roundw
    case rel => exact ⟨k + 1, p + 8, by omega, by go_num, hp4b, HC4, HP4, B4.out⟩
    case measure => simp [intOf]; omega
  · obtain rfl : n = k := by omega
    have HPf : Hid (Puts (w1.heap.size + 1 + 1) (w1.heap.size + 1) w1.heap.size wr (Lf.heads (l, ks) ++ l.flatMap Lf.key8) p) := by have h := HP.out; rw [List.take_of_length_le (by rw [HN.out]; exact zw0 _)] at h; exact h
    clear HP
    obtain ⟨r0, r1⟩ := (HV1.out.below bel).two
    have BL : Hid _ := bel
    clear bel
    go_wp2_with fail
    refine (qMJ _ _ a' n' c' l ks HN'.out).mono ?_
    rintro e w5 ⟨rfl, b5⟩
    rw [HLf.out]
    have bel : Below w1.heap.size w1 w5 := on BL.out b5
    have HP5 : Hid _ := HPf.out.below b5
    clear b5 BL HPf r0 r1
    obtain ⟨r0, r1⟩ := (HV1.out.below bel).two
    go_wp2
    go_loopw [62] (fun i wr => ∃ (k p : Nat), k ≤ n' ∧ i = .int .i64 k ∧ p ≤ 44 ∧ Hid (p = 4 + 8 * n + 4 * k) ∧ Hid (Puts (w1.heap.size + 1 + 1) (w1.heap.size + 1) w1.heap.size wr (Lf.heads (l, ks) ++ l.flatMap Lf.key8 ++ (ks.take k).flatMap Lf.kid4) p) ∧ Below w1.heap.size w1 wr) (fun i _ => n' - (intOf i).toNat)
    case atStart => exact ⟨0, p, Nat.zero_le _, rfl, by omega, HC, by rw [List.take_zero, List.flatMap_nil, List.append_nil]; exact HP5, bel⟩
    case round =>
     obtain ⟨k, p, hk, rfl, hp, HC, HP, bel⟩ := hrel
     by_cases hlt : k < n'
     · have hkl : k < ks.length := by rw [HN'.out]; exact hlt
       have BW : Hid _ := on B1.out bel
       obtain ⟨g, off, rfl, -, -, hat⟩ := q2z (Rep.below HK.out BW.out) (by omega)
       obtain ⟨c0, -, -⟩ := hat k hkl
       have hpg := HOK.out.pages ks[k] (List.getElem_mem hkl)
       obtain ⟨q, hq⟩ := Int.eq_ofNat_of_zero_le (show 0 ≤ ks[k] by omega)
       have hq1 : q ≤ 2048 := by omega
       have HQ : Hid (Lf.kid4 ks[k] = Oct.octs q 4) := by unfold Hid Lf.kid4; rw [hq]; rfl
       rw [show ks[k] = (q : Int) from hq] at c0
       clear hq hpg
       have hkz : (k : Int) < (n' : Int) := by omega
       have HP3 : Hid (Puts (w1.heap.size + 1 + 1) (w1.heap.size + 1) w1.heap.size wr (Lf.heads (l, ks) ++ l.flatMap Lf.key8 ++ (ks.take k).flatMap Lf.kid4) p) := HP.out
       have B3 : Hid _ := bel
       clear HP
       clear hat bel
       go_wp2_with fail
       refine (qSQ _ (w1.heap.size + 1 + 1) (w1.heap.size + 1) w1.heap.size (by omega) (by omega) (by omega) _ _ HP3.out (q) 4 _ _ rfl rfl (by decide) (by decide) (Nat.lt_of_le_of_lt hq1 (by decide)) (by omega)).mono ?_
       rintro e w4 ⟨rfl, hp4, k4⟩
       have B4 : Hid (Below w1.heap.size w1 w4) := q3J B3.out k4 B3.out.size (by omega) (by omega)
       have HP4 : Hid (Puts (w1.heap.size + 1 + 1) (w1.heap.size + 1) w1.heap.size w4 (Lf.heads (l, ks) ++ l.flatMap Lf.key8 ++ (ks.take (k + 1)).flatMap Lf.kid4) (p + 4)) := by
        rw [Lf.flat_next _ hkl, HQ.out, ← List.append_assoc]
        exact hp4
       have HC4 : Hid (p + 4 = 4 + 8 * n + 4 * (k + 1)) := by have := HC.out; unfold Hid; omega
       have hp4b : p + 4 ≤ 44 := by have := HC4.out; have := HKl.out; omega
       clear hp4 k4 HP3
       go_wp2
       go_roundw
       case rel => exact ⟨k + 1, p + 4, by omega, by go_num, hp4b, HC4, HP4, B4.out⟩
       case measure => simp [intOf]; omega
     · obtain rfl : n' = k := by omega
       have HPz : Hid (Puts (w1.heap.size + 1 + 1) (w1.heap.size + 1) w1.heap.size wr (Lf.heads (l, ks) ++ l.flatMap Lf.key8 ++ ks.flatMap Lf.kid4) p) := by have h := HP.out; rw [List.take_of_length_le (by rw [HN'.out]; exact zw0 _)] at h; exact h
       clear HP
       obtain ⟨r2, -⟩ := (⟨HPz.out.box.cell (j := 0) rfl, trivial⟩ : _ ∧ True)
       have HS : Hid (IsB wr (some ⟨w1.heap.size, 0, none⟩) 60 ((Lf.heads (l, ks) ++ l.flatMap Lf.key8 ++ ks.flatMap Lf.kid4) ++ List.replicate (60 - p) 0)) := HPz.out.isB (by omega)
       have HEN : Hid (Crc.sealed ((Lf.heads (l, ks) ++ l.flatMap Lf.key8 ++ ks.flatMap Lf.kid4) ++ List.replicate (60 - p) 0) = Lf.enc (l, ks)) := by
        have hf : Lf.front (l, ks) = Lf.heads (l, ks) ++ l.flatMap Lf.key8 ++ ks.flatMap Lf.kid4 := (by rw [Lf.front_put (by show l.length ≤ 3; rw [HN.out]; exact hn3), HLf.out]; simp)
        unfold Hid Lf.enc Lf.body
        rw [hf, HPz.out.len]
       have BE : Hid _ := bel
       clear bel
       go_wp2_with fail
       refine (seal_said _ _ 60 _ _ (by decide) (by decide) (fun h => by cases h) HS.out).mono ?_
       rintro ey w9 ⟨b9, d9, rfl, ho9, bw9⟩
       rw [HEN.out] at ho9
       have HO : Hid _ := q9q ho9 (on B1.out BE.out).size
       clear ho9
       go_wp2
       go_ret2
       exact ⟨b9, d9, rfl, HO.out, on (on B1.out BE.out) bw9⟩
theorem encode_no (w : World) (P P' : Nat → Prop) (a a' : Option Addr) (n c n' c' : Nat) (l : List Itm) (ks : List Int) (hL : rItms.rd w P [.slice a n c] l) (hK : rKids.rd w P' [.slice a' n' c'] ks) (hok : Lf.ok (l, ks) = false) :
 Calls Tryz.prog 104 #[.agg #[.slice a n c, .slice a' n' c']] w fun e w' => e = .returned (.tuple #[.slice none 0 0, .int .i64 9]) ∧ Below w.heap.size w w' := by
 have HE0 : Hid (Lf.encodeE (l, ks) = 9) := by unfold Hid Lf.encodeE; rw [hok]; rfl
 have HR : Hid _ := hL
 have HK : Hid _ := hK
 obtain ⟨w0, hw0, V0, b0, z0⟩ := q0q w 63 [.slice a n c, .slice a' n' c']
 have HV0 : Hid _ := V0
 have B0 : Hid _ := b0
 clear hL hK V0 b0 z0 hok
 go_enter Tryz.func104, Tryz.ntmps104
 obtain ⟨r0, r1⟩ := HV0.out.two
 go_wp2_with fail
 refine (check_u _ P P' a a' n c n' c' l ks (Rep.below HR.out B0.out) (Rep.below HK.out B0.out)).mono ?_
 rintro e w1 ⟨rfl, b1⟩
 rw [HE0.out]
 have B1 : Hid _ := on B0.out b1
 clear r0 r1 b1
 go_wp2
 go_ret2
 exact ⟨rfl, B1.out⟩
theorem qZx (w : World) (P P' : Nat → Prop) (a a' : Option Addr) (n c n' c' : Nat) (l : List Itm) (ks : List Int) (hL : rItms.rd w P [.slice a n c] l) (hK : rKids.rd w P' [.slice a' n' c'] ks) :
 Calls Tryz.prog 104 #[.agg #[.slice a n c, .slice a' n' c']] w fun e w' => ∃ b m d, e = .returned (.tuple #[.slice b m d, .int .i64 (Lf.encodeE (l, ks))]) ∧ w'.ownsRow w.heap.size 5 1 (.slice b m d) m (cellsOf (Lf.encodeL (l, ks))) ∧ Below w.heap.size w w' := by
 cases h : Lf.ok (l, ks)
 · refine (encode_no w P P' a a' n c n' c' l ks hL hK h).mono ?_
   rintro e w' ⟨rfl, b1⟩
   refine ⟨none, 0, 0, ?_, ?_, b1⟩
   · unfold Lf.encodeE; rw [h]; rfl
   · unfold Lf.encodeL; rw [h]; exact q7J _ _
 · cases hl : Lf.isLeaf (l, ks)
   · refine (encode_kids w P P' a a' n c n' c' l ks hL hK h hl).mono ?_
     rintro e w' ⟨b, d, rfl, ho, b1⟩
     refine ⟨b, 64, d, ?_, ?_, b1⟩
     · unfold Lf.encodeE; rw [h]; rfl
     · unfold Lf.encodeL; rw [h]; exact ho
   · refine (encode_leaf w P P' a a' n c n' c' l ks hL hK h hl).mono ?_
     rintro e w' ⟨b, d, rfl, ho, b1⟩
     refine ⟨b, 64, d, ?_, ?_, b1⟩
     · unfold Lf.encodeE; rw [h]; rfl
     · unfold Lf.encodeL; rw [h]; exact ho
theorem decode_short (w : World) (a : Option Addr) (n cap : Nat) (hn : n ≤ 140737488351232) (h : n ≠ 64) :
 Calls Tryz.prog 100 #[.slice a n cap] w fun e w' => ∃ v v', e = .returned (.tuple #[.agg #[v, v'], .int .i64 8]) ∧ OwnI 45 w' w.heap.size v [] ∧ OwnK 3 w' w.heap.size v' [] ∧ Below w.heap.size w w' := by
 have hne : ((n : Int) != 64) = true := bne_iff_ne.2 (by omega)
 obtain ⟨w0, hw0, V, bw0, -⟩ := q0q w 63 [.slice none 0 0, .slice none 0 0]
 obtain ⟨z0, z1⟩ := V.two
 have f0 := V.frozen 0
 have f1 := V.frozen 1
 go_enter Tryz.func100, Tryz.ntmps100
 go_wp2
 exact q8Q V bw0 (zw0 _) _ _ _ rfl rfl rfl Tryz.underlying63 rfl (by kernel_rfl) (fun w' _ b' => ⟨_, _, rfl, OwnI.nil _ _ _, OwnK.nil _ _ _, b'⟩)
theorem decode_open (w : World) (a : Option Addr) (cap : Nat) (l : List UInt8) (hcap : 64 ≤ cap) (hnil : a = none → cap = 0) (hB : IsB w a 64 l) (hE : Crc.openE l ≠ 0) :
 Calls Tryz.prog 100 #[.slice a 64 cap] w fun e w' => ∃ v v', e = .returned (.tuple #[.agg #[v, v'], .int .i64 21]) ∧ OwnI 45 w' w.heap.size v [] ∧ OwnK 3 w' w.heap.size v' [] ∧ Below w.heap.size w w' := by
 have HB : Hid (IsB _ _ _ _) := hB
 clear hB
 obtain ⟨w0, hw0, V, bw0, -⟩ := q0q w 63 [.slice none 0 0, .slice none 0 0]
 go_enter Tryz.func100, Tryz.ntmps100
 go_wp2_with fail
 refine (qPQ _ _ 64 _ l (by decide) hcap hnil (HB.out.below bw0)).mono ?_
 rintro ex w1 ⟨xa, xn, xc, rfl, ho, bw1⟩
 have hEb : (Crc.openE l != 0) = true := bne_iff_ne.2 hE
 have V := V.below bw1
 obtain ⟨z0, z1⟩ := V.two
 have f0 := V.frozen 0
 have f1 := V.frozen 1
 clear ho hE
 go_wp2
 exact q8Q V (on bw0 bw1) (zw0 _) _ _ _ rfl rfl rfl Tryz.underlying63 rfl (by kernel_rfl) (fun w' _ b' => ⟨_, _, rfl, OwnI.nil _ _ _, OwnK.nil _ _ _, b'⟩)
theorem decode_kind (w : World) (a : Option Addr) (cap : Nat) (l : List UInt8) (hcap : 64 ≤ cap) (hnil : a = none → cap = 0) (hB : IsB w a 64 l) (hE : Crc.openE l = 0) (hk : ¬ ((Crc.openL l).getD 0 0 = 1 ∨ (Crc.openL l).getD 0 0 = 2)) :
 Calls Tryz.prog 100 #[.slice a 64 cap] w fun e w' => ∃ v v', e = .returned (.tuple #[.agg #[v, v'], .int .i64 22]) ∧ OwnI 45 w' w.heap.size v [] ∧ OwnK 3 w' w.heap.size v' [] ∧ Below w.heap.size w w' := by
 have HKd : Hid _ := hk
 clear hk
 have hl64 : Hid (l.length = 64) := hB.1
 have HL : Hid ((Crc.openL l).length = 60) := qXQ hB.1 hE
 have HB : Hid (IsB _ _ _ _) := hB
 have HE : Hid _ := hE
 clear hB
 obtain ⟨w0, hw0, V, bw0, -⟩ := q0q w 63 [.slice none 0 0, .slice none 0 0]
 go_enter Tryz.func100, Tryz.ntmps100
 go_wp2_with fail
 refine (qPQ _ _ 64 _ l (by decide) hcap hnil (HB.out.below bw0)).mono ?_
 rintro ex w1 ⟨xa, xn, xc, rfl, ho, bw1⟩
 rw [hE]
 obtain rfl : xn = 60 := (q9J ho).trans HL.out
 obtain ⟨hX, hXc, -⟩ := q4x ho
 obtain ⟨xb, xo, rfl, -⟩ := hX.place (by decide)
 have HX : Hid (IsB w1 (some ⟨xb, xo, none⟩) 60 (Crc.openL l)) := hX
 have V1 : Hid (Row w1 w.heap.size 63 [.slice none 0 0, .slice none 0 0]) := V.below bw1
 have BW1 : Hid (Below w.heap.size w w1) := on bw0 bw1
 have HB1 : Hid (IsB w1 a 64 l) := (HB.out.below bw0).below bw1
 clear ho hE V bw1 bw0 hX
 go_wp2_with fail
 refine (read_no _ xb xo _ (Crc.openL l) HX.out HKd.out).mono ?_
 rintro ex w2 ⟨rfl, b2⟩
 have V := V1.out.below b2
 obtain ⟨z0, z1⟩ := V.two
 have f0 := V.frozen 0
 have f1 := V.frozen 1
 obtain ⟨w3, hw3, V3, b3, z3⟩ := q0q w2 63 [.slice none 0 0, .slice none 0 0]
 obtain ⟨p0, p1⟩ := V3.two
 have h0 := V3.frozen 0
 have h1 := V3.frozen 1
 obtain ⟨w4, hw4, V4x, K4⟩ := V3.whole2 (.slice none 0 0) (.slice none 0 0)
 have hlt : w.heap.size < w2.heap.size := V.lt
 have V4 := (V.below b3).keep (K4.block w.heap.size (by omega))
 obtain ⟨y0, y1⟩ := V4.two
 have g0 := V4.frozen 0
 have g1 := V4.frozen 1
 have B3 : Hid (Below w.heap.size w w4) := Kept.belowOf (on (on BW1.out b2) b3) K4 (by omega)
 obtain ⟨w5, hw5⟩ : ∃ w5, w3.setCell ⟨w2.heap.size, 0, none⟩ (.slice none 0 0) = w5 := ⟨_, rfl⟩
 have V5 : Row w5 w2.heap.size 63 [.slice none 0 0, .slice none 0 0] := by rw [← hw5]; exact V3.set 0 (.slice none 0 0)
 obtain ⟨p2, p3⟩ := V5.two
 have h2 := V5.frozen 0
 have h3 := V5.frozen 1
 rw [hw5] at hw4
 clear V3 b3 z3 V V4x K4
 go_wp2
 exact q8Q V4 B3.out (zw0 _) _ _ _ rfl rfl rfl Tryz.underlying63 rfl (by kernel_rfl) (fun w' _ b' => ⟨_, _, rfl, OwnI.nil _ _ _, OwnK.nil _ _ _, b'⟩)
set_option maxRecDepth 20000 in
theorem decode_in (w : World) (a : Option Addr) (cap : Nat) (l : List UInt8) (hcap : 64 ≤ cap) (hnil : a = none → cap = 0) (hB : IsB w a 64 l) (hE : Crc.openE l = 0) (hk : (Crc.openL l).getD 0 0 = 1 ∨ (Crc.openL l).getD 0 0 = 2) :
 Calls Tryz.prog 100 #[.slice a 64 cap] w fun e w' => ∃ v v', e = .returned (.tuple #[.agg #[v, v'], .int .i64 (Lf.decodeE l)]) ∧ OwnI 45 w' w.heap.size v (Lf.decodeN l).1 ∧ OwnK 3 w' w.heap.size v' (Lf.decodeN l).2 ∧ Below w.heap.size w w' := by
 have HKd : Hid _ := hk
 clear hk
 have hl64 : Hid (l.length = 64) := hB.1
 have HL : Hid ((Crc.openL l).length = 60) := qXQ hB.1 hE
 have HB : Hid (IsB _ _ _ _) := hB
 have HE : Hid _ := hE
 clear hB
 obtain ⟨w0, hw0, V, bw0, -⟩ := q0q w 63 [.slice none 0 0, .slice none 0 0]
 go_enter Tryz.func100, Tryz.ntmps100
 go_wp2_with fail
 refine (qPQ _ _ 64 _ l (by decide) hcap hnil (HB.out.below bw0)).mono ?_
 rintro ex w1 ⟨xa, xn, xc, rfl, ho, bw1⟩
 rw [hE]
 obtain rfl : xn = 60 := (q9J ho).trans HL.out
 obtain ⟨hX, hXc, -⟩ := q4x ho
 obtain ⟨xb, xo, rfl, -⟩ := hX.place (by decide)
 have HX : Hid (IsB w1 (some ⟨xb, xo, none⟩) 60 (Crc.openL l)) := hX
 have V1 : Hid (Row w1 w.heap.size 63 [.slice none 0 0, .slice none 0 0]) := V.below bw1
 have BW1 : Hid (Below w.heap.size w w1) := on bw0 bw1
 have HB1 : Hid (IsB w1 a 64 l) := (HB.out.below bw0).below bw1
 clear ho hE V bw1 bw0 hX
 have HD : Hid _ := Lf.decode_read hl64.out HE.out HL.out HKd.out
 have HLT : Hid (w.heap.size < w1.heap.size) := V1.out.lt
 go_wp2_with fail
 refine (read_yes _ xb xo _ (Crc.openL l) HX.out HKd.out).mono ?_
 rintro ex w2 ⟨v, v', rfl, hoI, hoK, b2⟩
 obtain ⟨ia, ic, rfl, -, -⟩ := hoI.slice
 obtain ⟨ka, kc, rfl, -, -⟩ := hoK.slice
 obtain ⟨il, hil⟩ : ∃ il, il = (Lf.readN (Crc.openL l)).1.length := ⟨_, rfl⟩
 obtain ⟨kl, hkl⟩ : ∃ kl, kl = (Lf.readN (Crc.openL l)).2.length := ⟨_, rfl⟩
 rw [← hil] at hoI ⊢
 rw [← hkl] at hoK ⊢
 have HOI : Hid _ := hoI
 have HOK : Hid _ := hoK
 have HLI : Hid ((Lf.readN (Crc.openL l)).1.length ≤ 255) := (by have := Lf.cnt_lt (Crc.openL l); show (Lf.readI (Crc.openL l)).length ≤ 255; rw [Lf.readI_len]; omega)
 have HLK : Hid ((Lf.readN (Crc.openL l)).2.length ≤ 256) := (by have := Lf.cnt_lt (Crc.openL l); show (Lf.readK (Crc.openL l)).length ≤ 256; unfold Lf.readK; split <;> simp; omega)
 clear hil hkl hoI hoK
 obtain ⟨w3, hw3, V3, b3, z3⟩ := q0q w2 63 [.slice ia il ic, .slice ka kl kc]
 have HV3 : Hid _ := V3
 have R3 : Hid _ := (V1.out.below b2).below b3
 have BW3 : Hid (Below w.heap.size w w3) := on (on BW1.out b2) b3
 have HB3 : Hid (IsB w3 a 64 l) := (HB1.out.below b2).below b3
 have HOI3 : Hid _ := HOI.out.below b3
 have HOK3 : Hid _ := HOK.out.below b3
 obtain ⟨s0, s1⟩ := HV3.out.two
 clear V3 b3 z3 b2 HOI HOK
 go_wp2_with fail
 refine (qZx _ _ _ ia ka il ic kl kc (Lf.readN (Crc.openL l)).1 (Lf.readN (Crc.openL l)).2 (HOI3.out.rd (by have := HLI.out; omega)) (HOK3.out.rd (by have := HLK.out; omega))).mono ?_
 rintro ex w4 ⟨ya, yn, yc, rfl, hoY, b4⟩
 have HV4 : Hid _ := HV3.out.below b4
 have R4 : Hid _ := R3.out.below b4
 have BW4 : Hid _ := on BW3.out b4
 have HB4 : Hid (IsB w4 a 64 l) := HB3.out.below b4
 have HOI4 : Hid _ := HOI3.out.below b4
 have HOK4 : Hid _ := HOK3.out.below b4
 clear s0 s1 b4 HV3 R3 HB3 HOI3 HOK3 hw3
 obtain ⟨s0, s1⟩ := HV4.out.two
 obtain ⟨z0, z1⟩ := R4.out.two
 have f0 := R4.out.frozen 0
 have f1 := R4.out.frozen 1
 obtain ⟨NN, hNN⟩ : ∃ NN, NN = Lf.readN (Crc.openL l) := ⟨_, rfl⟩
 rw [show ((Lf.readN (Crc.openL l)).1, (Lf.readN (Crc.openL l)).2) = NN from hNN.symm] at hoY ⊢
 rw [← hNN] at HOI4 HOK4 HD
 cases hok : Lf.ok NN
 · have e9 : Lf.encodeE NN = 9 := by unfold Lf.encodeE; rw [hok]; rfl
   have HD2 : Hid _ := HD.out.2 (fun h => by rw [hok] at h; cases h.1)
   rw [e9]
   clear e9 hok hoY hNN
   go_wp2
   rw [HD2.out.1, HD2.out.2]
   exact q8Q R4.out BW4.out (zw0 _) _ _ _ rfl rfl rfl Tryz.underlying63 rfl (by kernel_rfl) (fun w' _ b' => ⟨_, _, rfl, OwnI.nil _ _ _, OwnK.nil _ _ _, b'⟩)
 · have e0 : Lf.encodeE NN = 0 := if_pos hok
   have eL : Lf.encodeL NN = Lf.enc NN := if_pos hok
   rw [eL] at hoY
   rw [e0]
   have HOKN : Hid _ := hok
   obtain rfl : yn = 64 := (q9J hoY).trans (Lf.enc_len (Lf.ok_iff.1 hok))
   have HY : Hid (IsB w4 ya 64 (Lf.enc NN)) := (q4x hoY).1
   obtain ⟨EE, hEE⟩ : ∃ EE, EE = Lf.enc NN := ⟨_, rfl⟩
   rw [← hEE] at HY HD
   clear e0 eL hok hoY hNN hEE
   cases hc : (EE == l)
   · have HC : Hid _ := hc
     have hcp : ¬ EE = l := beq_eq_false_iff_ne.1 hc
     have HD2 : Hid _ := HD.out.2 (fun h => hcp h.2)
     clear hcp hc
     go_wp2_with (go_at_call 124; refine (equal_u _ _ _ 64 _ 64 _ _ _ HY.out HB4.out _ HC.out).mono ?_; rintro e w9 ⟨rfl, rfl⟩)
     rw [HD2.out.1, HD2.out.2]
     exact q8Q R4.out BW4.out (zw0 _) _ _ _ rfl rfl rfl Tryz.underlying63 rfl (by kernel_rfl) (fun w' _ b' => ⟨_, _, rfl, OwnI.nil _ _ _, OwnK.nil _ _ _, b'⟩)
   · have HC : Hid _ := hc
     have hcp : EE = l := beq_iff_eq.1 hc
     have HD2 : Hid _ := HD.out.1 ⟨HOKN.out, hcp⟩
     clear hcp hc
     go_wp2_with (go_at_call 124; refine (equal_u _ _ _ 64 _ 64 _ _ _ HY.out HB4.out _ HC.out).mono ?_; rintro e w9 ⟨rfl, rfl⟩)
     rw [HD2.out.1, HD2.out.2]
     exact q8Q R4.out BW4.out (zw0 _) _ _ _ rfl rfl rfl Tryz.underlying63 rfl (by kernel_rfl) (fun w' k' b' => ⟨_, _, rfl, (HOI4.out.keptL k' HLT.out).mono BW1.out.size, (HOK4.out.keptL k' HLT.out).mono BW1.out.size, b'⟩)
theorem decode_u (w : World) (a : Option Addr) (n cap : Nat) (l : List UInt8) (hn : n ≤ 140737488351232) (hcap : n ≤ cap) (hnil : a = none → cap = 0) (hB : IsB w a n l) :
 Calls Tryz.prog 100 #[.slice a n cap] w fun e w' => ∃ v v', e = .returned (.tuple #[.agg #[v, v'], .int .i64 (Lf.decodeE l)]) ∧ OwnI 45 w' w.heap.size v (Lf.decodeN l).1 ∧ OwnK 3 w' w.heap.size v' (Lf.decodeN l).2 ∧ Below w.heap.size w w' := by
 have hl := hB.1
 by_cases h : n = 64
 · subst h
   by_cases hE : Crc.openE l = 0
   · by_cases hk : (Crc.openL l).getD 0 0 = 1 ∨ (Crc.openL l).getD 0 0 = 2
     · exact decode_in w a cap l hcap hnil hB hE hk
     · rw [(Lf.decode_kind hl hE hk).1, (Lf.decode_kind hl hE hk).2]
       exact decode_kind w a cap l hcap hnil hB hE hk
   · rw [(Lf.decode_refused hl hE).1, (Lf.decode_refused hl hE).2]
     exact decode_open w a cap l hcap hnil hB hE
 · rw [(Lf.decode_length (b := l) (by omega)).1, (Lf.decode_length (b := l) (by omega)).2]
   exact decode_short w a n cap hn h
theorem page_at {s : Pgs} {q : Nat} (h : q < s.length) : s[q] = Tr.page s ((q : Int) + 1) := by
 unfold Tr.page
 rw [show ((q : Int) + 1).toNat - 1 = q by omega]
 simp [List.getD, zw3 h]
theorem nodeT_in (w : World) (P : Nat → Prop) (pa : Option Addr) (pc : Nat) (s : Pgs) (hR : rSectors.rd w P [.slice pa s.length pc] s) (q : Nat) (hq : q < s.length) :
 Calls Tryz.prog 75 #[.slice pa s.length pc, .int .i64 ((q : Int) + 1)] w fun e w' => Below w.heap.size w w' ∧
  (Lf.decodeE (Tr.page s ((q : Int) + 1)) = 0 → ∃ ia il ic ka kl kc, e = .returned (.agg #[.slice ia il ic, .slice ka kl kc]) ∧ OwnI 45 w' w.heap.size (.slice ia il ic) (Tr.nod s ((q : Int) + 1)).1 ∧ OwnK 3 w' w.heap.size (.slice ka kl kc) (Tr.nod s ((q : Int) + 1)).2) ∧
  (Lf.decodeE (Tr.page s ((q : Int) + 1)) ≠ 0 → e = q9Q 9) := by
 have hsl := q4q hR
 have HR : Hid _ := hR
 obtain ⟨w0, hw0, V0, b0, z0⟩ := q0q w 63 [.slice none 0 0, .slice none 0 0]
 obtain ⟨pb, off, rfl, -, -, hat⟩ := q8X (Rep.below hR b0) (by omega)
 obtain ⟨x, m, d, hpg, hml, cp⟩ := hat q hq
 rw [page_at hq] at hpg
 obtain ⟨hpB, hpc, hpn, hpm⟩ := q5Q hpg
 have HPB : Hid (IsB w0 x m (Tr.page s ((q : Int) + 1))) := hpB
 have HPc : Hid _ := hpc
 have HPn : Hid _ := hpn
 have HPm : Hid _ := hpm
 have HV0 : Hid _ := V0
 have B0 : Hid _ := b0
 have hqz : (q : Int) < (s.length : Int) := by omega
 have hq1 : (q : Int) + 1 ≥ 1 := by omega
 have hq2 : (q : Int) + 1 ≤ (s.length : Int) := by omega
 have hsz : s.length ≤ 5864062014634 := by omega
 clear hat hpg hml hpB hpc hpn hpm V0 b0 z0 hR hsl
 go_enter Tryz.func75, Tryz.ntmps75
 go_wp2_with (go_at_call 64; refine (q4Q _).mono ?_; rintro e w' ⟨rfl, rfl⟩)
 go_at_call 100
 refine (decode_u _ x m d (Tr.page s ((q : Int) + 1)) HPm.out HPc.out HPn.out HPB.out).mono ?_
 rintro e w2 ⟨v, u, rfl, hoI, hoK, b2⟩
 obtain ⟨ia, il, ic, rfl⟩ : ∃ a n c, v = .slice a n c := by obtain ⟨a, c, e, -⟩ := hoI.slice; exact ⟨a, _, c, e⟩
 obtain ⟨ka, kl, kc, rfl⟩ : ∃ a n c, u = .slice a n c := by obtain ⟨a, c, e, -⟩ := hoK.slice; exact ⟨a, _, c, e⟩
 obtain ⟨w3, hw3, V3, b3, z3⟩ := q0q w2 63 [.slice ia il ic, .slice ka kl kc]
 obtain ⟨y0, y1⟩ := V3.two
 have R0 : Hid (Row w3 w.heap.size 63 [.slice none 0 0, .slice none 0 0]) := (HV0.out.below (on b2 b3))
 have B3 : Hid (Below w.heap.size w w3) := on B0.out (on b2 b3)
 have HI : Hid (OwnI 45 w3 w.heap.size (.slice ia il ic) (Tr.nod s ((q : Int) + 1)).1) := (hoI.below b3).mono B0.out.size
 have HK : Hid (OwnK 3 w3 w.heap.size (.slice ka kl kc) (Tr.nod s ((q : Int) + 1)).2) := (hoK.below b3).mono B0.out.size
 obtain ⟨c0, c1⟩ := R0.out.two
 have f0 := R0.out.frozen 0
 have f1 := R0.out.frozen 1
 have HLI : Hid (∀ b, (Value.slice ia il ic).ownBlock = some b → b ≠ w.heap.size) := fun b hb e => by have := (hoI.row.lt b hb).1; have := B0.out.size; have := HV0.out.lt; omega
 have HLK : Hid (∀ b, (Value.slice ka kl kc).ownBlock = some b → b ≠ w.heap.size) := fun b hb e => by have := (hoK.row.lt b hb).1; have := B0.out.size; have := HV0.out.lt; omega
 clear hoI hoK b2 b3 V3 z3
 cases hE : decide (Lf.decodeE (Tr.page s ((q : Int) + 1)) = 0)
 · have hEz : (Lf.decodeE (Tr.page s ((q : Int) + 1)) == 0) = false := by simpa using hE
   have hE1 : Lf.decodeE (Tr.page s ((q : Int) + 1)) ≠ 0 := by simpa using hE
   have HE : Hid (Lf.decodeE (Tr.page s ((q : Int) + 1)) ≠ 0) := hE1
   clear hE1
   clear hE
   go_wp2_with (go_at_call 64; refine (q6z _).mono ?_; rintro e w' ⟨rfl, rfl⟩)
   refine ⟨rfl, B3.out, fun h => absurd h HE.out, fun _ => rfl⟩
 · have hEz : (Lf.decodeE (Tr.page s ((q : Int) + 1)) == 0) = true := by simpa using hE
   have hE1 : Lf.decodeE (Tr.page s ((q : Int) + 1)) = 0 := by simpa using hE
   have HE : Hid (Lf.decodeE (Tr.page s ((q : Int) + 1)) = 0) := hE1
   clear hE hE1
   rw [HE.out]
   clear hEz
   go_wp2_with (go_at_call 64; refine (q4Q _).mono ?_; rintro e w' ⟨rfl, rfl⟩)
   exact qAx R0.out B3.out (zw0 _) _ _ rfl rfl Tryz.underlying63 rfl (by kernel_rfl) (fun w' k' b' => ⟨b', fun _ => ⟨ia, il, ic, ka, kl, kc, rfl, HI.out.keep1 (fun b hb => k'.block b (HLI.out b hb)), HK.out.keep1 (fun b hb => k'.block b (HLK.out b hb))⟩, fun h => absurd HE.out h⟩)
theorem nodeT_out (w : World) (pa : Option Addr) (n pc : Nat) (p : Int) (hn : n ≤ 5864062014634) (h0 : -9223372036854775808 ≤ p) (h1 : p ≤ 9223372036854775807) (hp : ¬ (1 ≤ p ∧ p ≤ n)) :
 Calls Tryz.prog 75 #[.slice pa n pc, .int .i64 p] w fun e w' => Below w.heap.size w w' ∧ e = q9Q 9 := by
 obtain ⟨w0, hw0, V0, b0, z0⟩ := q0q w 63 [.slice none 0 0, .slice none 0 0]
 have B0 : Hid _ := b0
 clear V0 b0 z0
 by_cases h2 : p ≥ 1
 · have h3 : ¬ p ≤ (n : Int) := by omega
   clear hp
   go_enter Tryz.func75, Tryz.ntmps75
   go_wp2_with (go_at_call 64; refine (q6z _).mono ?_; rintro e w' ⟨rfl, rfl⟩)
   exact ⟨rfl, B0.out, rfl⟩
 · clear hp
   go_enter Tryz.func75, Tryz.ntmps75
   go_wp2_with (go_at_call 64; refine (q6z _).mono ?_; rintro e w' ⟨rfl, rfl⟩)
   exact ⟨rfl, B0.out, rfl⟩
def IsNode (w : World) (base : Nat) (v : Value) (n : Nod) : Prop :=
 ∃ ia il ic ka kl kc, v = .agg #[.slice ia il ic, .slice ka kl kc] ∧ rItms.rd w (fun b => base ≤ b) [.slice ia il ic] n.1 ∧ rKids.rd w (fun b => base ≤ b) [.slice ka kl kc] n.2
theorem IsNode.turn {S : List Nat} {w w' : World} {base : Nat} {v : Value} {n : Nod} (h : IsNode w base v n) (k : Turn S w w') (hS : ∀ b ∈ S, b < base) : IsNode w' base v n := by
 obtain ⟨ia, il, ic, ka, kl, kc, e, h1, h2⟩ := h
 exact ⟨ia, il, ic, ka, kl, kc, e, k.rep h1 (fun b hb _ hm => by have := hS b hm; omega), k.rep h2 (fun b hb _ hm => by have := hS b hm; omega)⟩
structure LWalks (w : World) (g gm : Nat) (P : Nat → Prop) (pa : Option Addr) (pc : Nat) (base : Nat) (s : Pgs) (k : Tr.Lw) (es : List (Int × Value)) : Prop where
 row : Row w g 70 [.slice pa s.length pc, .map (some gm), .int .i64 (k.leaf : Int)]
 pages : rSectors.rd w P [.slice pa s.length pc] s
 met : IsMet w gm es
 keys : es.map Prod.fst = k.met
 nodes : ∀ z ∈ es, IsNode w base z.2 (Tr.nod s z.1)
 nodup : k.met.Nodup
structure qEj (P : Nat → Prop) (g gm base : Nat) : Prop where
 pg : ¬ P g
 pgm : ¬ P gm
 ne : g ≠ gm
 gb : g < base
 gmb : gm < base
theorem LWalks.three {w : World} {g gm : Nat} {P : Nat → Prop} {pa : Option Addr} {pc base : Nat} {s : Pgs} {k : Tr.Lw} {es : List (Int × Value)} (h : LWalks w g gm P pa pc base s k es) :
 w.cell? ⟨g, 0, none⟩ = some (.slice pa s.length pc) ∧ w.cell? ⟨g, 1, none⟩ = some (.map (some gm)) ∧ w.cell? ⟨g, 2, none⟩ = some (.int .i64 (k.leaf : Int)) :=
 ⟨h.row.cell rfl, h.row.cell rfl, h.row.cell rfl⟩
theorem LWalks.turn {S : List Nat} {w w' : World} {g gm : Nat} {P : Nat → Prop} {pa : Option Addr} {pc base : Nat} {s : Pgs} {k : Tr.Lw} {es : List (Int × Value)} (h : LWalks w g gm P pa pc base s k es) (t : Turn S w w')
 (hg : g ∉ S) (hgm : gm ∉ S) (hP : ∀ b, P b → b ∉ S) (hb : ∀ b ∈ S, b < base) : LWalks w' g gm P pa pc base s k es :=
 ⟨t.row h.row hg, t.rep h.pages (fun b hb _ => hP b hb), h.met.turn t hgm, h.keys, fun z hz => (h.nodes z hz).turn t hb, h.nodup⟩
theorem LWalks.below {w w' : World} {g gm : Nat} {P : Nat → Prop} {pa : Option Addr} {pc base : Nat} {s : Pgs} {k : Tr.Lw} {es : List (Int × Value)} (h : LWalks w g gm P pa pc base s k es) (b : Below w.heap.size w w') : LWalks w' g gm P pa pc base s k es :=
 h.turn (S := []) (Turn.of b) (by simp) (by simp) (by simp) (by simp)
theorem LWalks.put {w w' : World} {g gm : Nat} {P : Nat → Prop} {pa : Option Addr} {pc base : Nat} {s : Pgs} {k : Tr.Lw} {es : List (Int × Value)} (h : LWalks w g gm P pa pc base s k es) (a : qEj P g gm base) {p : Int} {v : Value}
 (hm : IsMet w' gm (es ++ [(p, v)])) (t : Turn [gm] w w') (hp : p ∉ k.met) (hv : IsNode w' base v (Tr.nod s p)) : LWalks w' g gm P pa pc base s ⟨k.met ++ [p], k.leaf⟩ (es ++ [(p, v)]) := by
 refine ⟨t.row h.row (by simp [a.ne]), t.rep h.pages (fun b hb _ e => a.pgm (by simp at e; exact e ▸ hb)), hm, by simp [h.keys], fun z hz => ?_, ?_⟩
 · have hb : ∀ b ∈ [gm], b < base := fun b hb => by simp at hb; rw [hb]; exact a.gmb
   rcases List.mem_append.1 hz with hz | hz
   · exact (h.nodes z hz).turn t hb
   · rw [List.mem_singleton.1 hz]
     exact hv
 · exact List.nodup_append.2 ⟨h.nodup, by simp, fun x hx y hy e => hp (by simp at hy; rw [← hy, ← e]; exact hx)⟩
theorem LWalks.setLeaf {w : World} {g gm : Nat} {P : Nat → Prop} {pa : Option Addr} {pc base : Nat} {s : Pgs} {k : Tr.Lw} {es : List (Int × Value)} (h : LWalks w g gm P pa pc base s k es) (a : qEj P g gm base) (x : Nat) :
 LWalks (w.setCell ⟨g, 2, none⟩ (.int .i64 (x : Int))) g gm P pa pc base s ⟨k.met, x⟩ es := by
 have t : Turn [g] w (w.setCell ⟨g, 2, none⟩ (.int .i64 (x : Int))) := (Turn.refl [g] w).set (p := ⟨g, 2, none⟩) (.inr (by simp)) _
 exact ⟨h.row.set 2 _, t.rep h.pages (fun b hb _ e => a.pg (by simp at e; exact e ▸ hb)), h.met.turn t (by simp; exact fun e => a.ne e.symm), h.keys, fun z hz => (h.nodes z hz).turn t (fun b hb => by simp at hb; rw [hb]; exact a.gb), h.nodup⟩
def MeetDone (s : Pgs) (g gm : Nat) (P : Nat → Prop) (pa : Option Addr) (pc base : Nat) (k : Tr.Lw) (es : List (Int × Value)) (p : Int) (w : World) (e : Ending) (w' : World) : Prop :=
 ∃ ia il ic ka kl kc, e = .returned (.agg #[.slice ia il ic, .slice ka kl kc]) ∧ LWalks w' g gm P pa pc base s ⟨k.met ++ [p], k.leaf⟩ (es ++ [(p, .agg #[.slice ia il ic, .slice ka kl kc])]) ∧ Turn [gm] w w' ∧
   rItms.rd w' (fun b => w.heap.size ≤ b) [.slice ia il ic] (Tr.nod s p).1 ∧ rKids.rd w' (fun b => w.heap.size ≤ b) [.slice ka kl kc] (Tr.nod s p).2
theorem MeetDone.of {s : Pgs} {g gm : Nat} {P : Nat → Prop} {pa : Option Addr} {pc base : Nat} {k : Tr.Lw} {es : List (Int × Value)} {p : Int} {w : World} {e : Ending} {w' : World}
 (h : ∃ ia il ic ka kl kc, e = .returned (.agg #[.slice ia il ic, .slice ka kl kc]) ∧ LWalks w' g gm P pa pc base s ⟨k.met ++ [p], k.leaf⟩ (es ++ [(p, .agg #[.slice ia il ic, .slice ka kl kc])]) ∧ Turn [gm] w w' ∧
  rItms.rd w' (fun b => w.heap.size ≤ b) [.slice ia il ic] (Tr.nod s p).1 ∧ rKids.rd w' (fun b => w.heap.size ≤ b) [.slice ka kl kc] (Tr.nod s p).2) : MeetDone s g gm P pa pc base k es p w e w' := h
theorem meet_shut (w : World) (s : Pgs) (g gm : Nat) (P : Nat → Prop) (pa : Option Addr) (pc base : Nat) (k : Tr.Lw) (es : List (Int × Value)) (p dp : Int) (hW : LWalks w g gm P pa pc base s k es) (h0 : -9223372036854775808 ≤ p) (h1 : p ≤ 9223372036854775807) (hx : p ∈ k.met ∨ 16 < dp) :
 Calls Tryz.prog 63 #[.pointer (some ⟨g, 0, none⟩), .int .i64 p, .int .i64 dp] w fun e w' => e = q9Q 9 ∧ Below w.heap.size w w' := by
 obtain ⟨w0, hw0, V0, b0, z0⟩ := q0q w 63 [.slice none 0 0, .slice none 0 0]
 have W0 := hW.below b0
 obtain ⟨c0, c1, c2⟩ := W0.three
 have B0 : Hid _ := b0
 have HX : Hid _ := hx
 by_cases hm : p ∈ k.met
 · rw [← W0.keys] at hm
   obtain ⟨⟨p', v⟩, hz, e⟩ := List.mem_map.1 hm
   simp only at e
   subst e
   obtain ⟨ia, il, ic, ka, kl, kc, rfl, -, -⟩ := W0.nodes _ hz
   have hl := look_yes W0.met hz (by rw [W0.keys]; exact W0.nodup) true
   simp only [if_true] at hl
   obtain ⟨w1, hw1, V1, b1, z1⟩ := q0q w0 63 [.slice ia il ic, .slice ka kl kc]
   have B1 : Hid _ := on B0.out b1
   clear hm hz W0 V0 V1 b0 b1 z0 z1 hx hW
   go_enter Tryz.func63, Tryz.ntmps63
   go_wp2_with (go_at_call 64; refine (q6z _).mono ?_; rintro e w' ⟨rfl, rfl⟩)
   exact ⟨rfl, rfl, B1.out⟩
 · have hd : ¬ dp ≤ 16 := by rcases hx with h | h; exact absurd h hm; omega
   have hl := look_no W0.met (p := p) (fun z hz e => hm (by rw [← W0.keys, ← e]; exact List.mem_map_of_mem hz)) true
   simp only [if_true, noNode] at hl
   clear hm W0 V0 b0 z0 hx hW
   go_enter Tryz.func63, Tryz.ntmps63
   go_wp2_with fail
   obtain ⟨w1, hw1, V1, b1, z1⟩ := q0q w0 63 [.slice none 0 0, .slice none 0 0]
   rw [hw1]
   have B1 : Hid _ := on B0.out b1
   clear V1 b1 z1
   go_at_call 64
   refine (q6z _).mono ?_
   rintro e w' ⟨rfl, rfl⟩
   go_wp2_with fail
   exact ⟨rfl, rfl, B1.out⟩
theorem meet_in (w : World) (s : Pgs) (g gm : Nat) (P : Nat → Prop) (pa : Option Addr) (pc base : Nat) (k : Tr.Lw) (es : List (Int × Value)) (p dp : Int) (hW : LWalks w g gm P pa pc base s k es) (hA : qEj P g gm base) (hb : base ≤ w.heap.size) (h0 : -9223372036854775808 ≤ p) (h1 : p ≤ 9223372036854775807) (hm : p ∉ k.met) (hd : dp ≤ 16) :
 Calls Tryz.prog 63 #[.pointer (some ⟨g, 0, none⟩), .int .i64 p, .int .i64 dp] w fun e w' =>
  ((1 ≤ p ∧ p ≤ s.length ∧ Lf.decodeE (Tr.page s p) = 0) → MeetDone s g gm P pa pc base k es p w e w') ∧ (¬ (1 ≤ p ∧ p ≤ s.length ∧ Lf.decodeE (Tr.page s p) = 0) → e = q9Q 9 ∧ Below w.heap.size w w') := by
 obtain ⟨w0, hw0, V0, b0, z0⟩ := q0q w 63 [.slice none 0 0, .slice none 0 0]
 have W0 := hW.below b0
 obtain ⟨c0, c1, c2⟩ := W0.three
 have B0 : Hid _ := b0
 have A : Hid _ := hA
 have HB : Hid _ := hb
 have HM : Hid (p ∉ k.met) := hm
 have HW : Hid _ := hW
 have hl := look_no W0.met (p := p) (fun z hz e => hm (by rw [← W0.keys, ← e]; exact List.mem_map_of_mem hz)) true
 simp only [if_true, noNode] at hl
 have HW0 : Hid _ := W0
 have HV0 : Hid _ := V0
 have hsl : s.length ≤ 5864062014634 := (q4q hW.pages).2
 clear hm V0 b0 z0 hW hA hb W0
 go_enter Tryz.func63, Tryz.ntmps63
 go_wp2_with fail
 obtain ⟨w1, hw1, V1, b1, z1⟩ := q0q w0 63 [.slice none 0 0, .slice none 0 0]
 rw [hw1]
 have B1 : Hid _ := on B0.out b1
 have W1 : Hid _ := HW0.out.below b1
 have R1 : Hid _ := HV0.out.below b1
 obtain ⟨d0, d1, d2⟩ := W1.out.three
 clear V1 b1 z1 hw1 hl c0 c1 c2
 go_at_call 64
 refine (q4Q _).mono ?_
 rintro e w1 ⟨rfl, rfl⟩
 by_cases hp : 1 ≤ p ∧ p ≤ s.length
 · obtain ⟨q, hq⟩ := Int.eq_ofNat_of_zero_le (show 0 ≤ p - 1 by omega)
   obtain rfl : p = (q : Int) + 1 := by omega
   have hql : q < s.length := by omega
   have HQL : Hid _ := hql
   clear hq
   go_wp2_with fail
   go_at_call 75
   refine (nodeT_in _ P pa pc s W1.out.pages q HQL.out).mono ?_
   rintro e w2 ⟨b2, hy, hn⟩
   by_cases hE : Lf.decodeE (Tr.page s ((q : Int) + 1)) = 0
   · obtain ⟨ia, il, ic, ka, kl, kc, rfl, hoI, hoK⟩ := hy hE
     clear hy hn
     obtain ⟨w3, hw3, V3, b3, z3⟩ := q0q w2 63 [.slice ia il ic, .slice ka kl kc]
     have W3 : Hid (LWalks w3 g gm P pa pc base s k es) := W1.out.below (on b2 b3)
     have R3 : Hid (Row w3 w.heap.size 63 [.slice none 0 0, .slice none 0 0]) := R1.out.below (on b2 b3)
     have B3 : Hid (Below w.heap.size w w3) := on B1.out (on b2 b3)
     have X3 : Hid _ := V3
     have HI3 : Hid (rItms.rd w3 (fun b => w1.heap.size ≤ b) [.slice ia il ic] (Tr.nod s ((q : Int) + 1)).1) := (hoI.below b3).rd (by have := Lf.decodeN_len (Tr.page s ((q : Int) + 1)); show (Lf.decodeN _).1.length ≤ _; omega)
     have HK3 : Hid (rKids.rd w3 (fun b => w1.heap.size ≤ b) [.slice ka kl kc] (Tr.nod s ((q : Int) + 1)).2) := (hoK.below b3).rd (by have := Lf.decodeN_len (Tr.page s ((q : Int) + 1)); show (Lf.decodeN _).2.length ≤ _; omega)
     have HZ : Hid (w.heap.size < w1.heap.size) := R1.out.lt
     obtain ⟨e0, e1, e2⟩ := W3.out.three
     obtain ⟨x0, x1⟩ := X3.out.two
     obtain ⟨w4, hr4, hm4, k4, z4⟩ := store_new (w := w3.drew) (b := gm) (l := es) ⟨W3.out.met.eq⟩ (p := (q : Int) + 1) (fun z hz e => HM.out (by rw [← W3.out.keys, ← e]; exact List.mem_map_of_mem hz)) (.agg #[.slice ia il ic, .slice ka kl kc])
     have k34 : Kept (· ≠ gm) w3 w4 := ⟨k4.os, k4.tape, k4.output, k4.size, k4.block⟩
     have M4 : Hid _ := hm4
     have hgm : gm < w.heap.size := by have := A.out.gmb; have := HB.out; omega
     have R4 : Hid (Row w4 w.heap.size 63 [.slice none 0 0, .slice none 0 0]) := R3.out.keep (k34.block _ (by show w.heap.size ≠ gm; omega))
     have X4 : Hid (Row w4 w2.heap.size 63 [.slice ia il ic, .slice ka kl kc]) := X3.out.keep (k34.block _ (by have := b2.size; have := HZ.out; show w2.heap.size ≠ gm; omega))
     have T4 : Hid (Turn [gm] w w4) := (Turn.of B3.out).trans (k34.mono (fun b hb e => hb.2 (by simp [e])))
     have HI4 : Hid (rItms.rd w4 (fun b => w1.heap.size ≤ b) [.slice ia il ic] (Tr.nod s ((q : Int) + 1)).1) := Rep.kept HI3.out k34 (fun b hb _ => by have := HZ.out; show b ≠ gm; omega)
     have HK4 : Hid (rKids.rd w4 (fun b => w1.heap.size ≤ b) [.slice ka kl kc] (Tr.nod s ((q : Int) + 1)).2) := Rep.kept HK3.out k34 (fun b hb _ => by have := HZ.out; show b ≠ gm; omega)
     obtain ⟨y0, y1⟩ := X4.out.two
     obtain ⟨u0, u1⟩ := R4.out.two
     have g0 := R4.out.frozen 0
     have g1 := R4.out.frozen 1
     clear hoI hoK b2 b3 V3 z3 hm4 k4 z4 k34
     go_wp2_with fail
     go_region
     go_wp2
     obtain ⟨w5, hw5, R5, K5⟩ := R4.out.whole2 (.slice ia il ic) (.slice ka kl kc)
     rw [hw5]
     have T5 : Turn [gm] w w5 := by rw [← hw5]; exact (T4.out.set (p := ⟨w.heap.size, 0, none⟩) (.inl (zw0 _)) _).set (p := ⟨w.heap.size, 1, none⟩) (.inl (zw0 _)) _
     have I5 : rItms.rd w5 (fun b => w1.heap.size ≤ b) [.slice ia il ic] (Tr.nod s ((q : Int) + 1)).1 := Rep.kept HI4.out K5 (fun b hb _ => by have := HZ.out; show b ≠ w.heap.size; omega)
     have J5 : rKids.rd w5 (fun b => w1.heap.size ≤ b) [.slice ka kl kc] (Tr.nod s ((q : Int) + 1)).2 := Rep.kept HK4.out K5 (fun b hb _ => by have := HZ.out; show b ≠ w.heap.size; omega)
     have N5 : IsNode w5 base (.agg #[.slice ia il ic, .slice ka kl kc]) (Tr.nod s ((q : Int) + 1)) := ⟨ia, il, ic, ka, kl, kc, rfl, rItms.weaken I5 (fun b hb _ => by have := HB.out; have := HZ.out; omega), rKids.weaken J5 (fun b hb _ => by have := HB.out; have := HZ.out; omega)⟩
     have M5 := M4.out.keep (K5.block gm (by show gm ≠ w.heap.size; omega))
     refine bodyPost_ret (q8Z (p := 6) rfl rfl R5 Tryz.underlying63 rfl (by kernel_rfl)) rfl ⟨fun _ => MeetDone.of ⟨ia, il, ic, ka, kl, kc, rfl, HW.out.put A.out M5 T5 HM.out N5, T5, ?_, ?_⟩, fun h => absurd ⟨hp.1, hp.2, hE⟩ h⟩
     · exact rItms.weaken I5 (fun b hb _ => by have := HZ.out; omega)
     · exact rKids.weaken J5 (fun b hb _ => by have := HZ.out; omega)
   · have e9 := hn hE
     subst e9
     have B2 : Hid _ := on B1.out b2
     clear hy hn b2
     go_wp2_with fail
     exact ⟨rfl, fun h => absurd h.2.2 hE, fun _ => ⟨rfl, B2.out⟩⟩
 · have HP : Hid _ := hp
   clear hp
   go_wp2_with fail
   go_at_call 75
   refine (nodeT_out _ pa s.length pc p hsl h0 h1 HP.out).mono ?_
   rintro e w2 ⟨b2, rfl⟩
   have B2 : Hid _ := on B1.out b2
   clear b2
   go_wp2_with fail
   exact ⟨rfl, fun h => absurd ⟨h.1, h.2.1⟩ HP.out, fun _ => ⟨rfl, B2.out⟩⟩
namespace Tr
theorem qVq {g : Int → Lw → Option (Lw × UInt64 × UInt64)} {n : Nod} {w : Lw} {j : Nat} (h : lkids g n j w = none) : ∀ i, lkids g n (j + i) w = none
 | 0 => h
 | i + 1 => by
   show lkids g n ((j + i) + 1) w = none
   unfold lkids
   rw [qVq h i]
   rfl
theorem lkids_all {g : Int → Lw → Option (Lw × UInt64 × UInt64)} {n : Nod} {w : Lw} {j m : Nat} (h : lkids g n j w = none) (hj : j ≤ m) : lkids g n m w = none := by
 have := qVq h (m - j)
 rwa [show j + (m - j) = m by omega] at this
theorem lkids_next {g : Int → Lw → Option (Lw × UInt64 × UInt64)} {n : Nod} {w k : Lw} {j : Nat} {a b : UInt64} (h : lkids g n j w = some (k, a, b)) (hj : j < n.2.length) :
 lkids g n (j + 1) w = (g n.2[j] k).bind fun t => if fits n j t.2.1 t.2.2 = true then some (t.1, if j = 0 then t.2.1 else a, t.2.2) else none := by
 conv => lhs; unfold lkids
 rw [h, Option.bind_some, getD_kid hj]
theorem keyF_at {l : List Itm} (h : 0 < l.length) : l[0].1 = keyF l := by
 unfold keyF
 rw [List.head?_eq_getElem?, zw3 h]
 rfl
theorem keyL_at {l : List Itm} {n : Nat} (hn : l.length = n) (h : n - 1 < l.length) : l[n - 1].1 = keyL l := by
 subst hn
 unfold keyL
 rw [List.getLast?_eq_getElem?, zw3 h]
 rfl
end Tr
def LDone (s : Pgs) (f : Nat) (g gm : Nat) (P : Nat → Prop) (pa : Option Addr) (pc base : Nat) (k : Tr.Lw) (p : Int) (w : World) (e : Ending) (w' : World) : Prop :=
 Turn [g, gm] w w' ∧ (Tr.lwalk s f p k = none → e = q9Q 9) ∧
 ∀ k' a b, Tr.lwalk s f p k = some (k', a, b) → e = .returned (.tuple #[.int .u64 (a.toNat : Int), .int .u64 (b.toNat : Int)]) ∧ ∃ es', LWalks w' g gm P pa pc base s k' es'
theorem LDone.no {s : Pgs} {f : Nat} {g gm : Nat} {P : Nat → Prop} {pa : Option Addr} {pc base : Nat} {k : Tr.Lw} {p : Int} {w : World} {w' : World} (t : Turn [g, gm] w w') (h : Tr.lwalk s f p k = none) : LDone s f g gm P pa pc base k p w (q9Q 9) w' :=
 ⟨t, fun _ => rfl, fun k' a b h' => by rw [h] at h'; cases h'⟩
theorem LDone.yes {s : Pgs} {f : Nat} {g gm : Nat} {P : Nat → Prop} {pa : Option Addr} {pc base : Nat} {k k' : Tr.Lw} {a b : UInt64} {p : Int} {w : World} {e : Ending} {w' : World} {es' : List (Int × Value)} (t : Turn [g, gm] w w') (h : Tr.lwalk s f p k = some (k', a, b))
 (he : e = .returned (.tuple #[.int .u64 (a.toNat : Int), .int .u64 (b.toNat : Int)])) (hW : LWalks w' g gm P pa pc base s k' es') : LDone s f g gm P pa pc base k p w e w' :=
 ⟨t, (fun h' => by rw [h] at h'; cases h'), (fun k2 a2 b2 h' => by rw [h] at h'; cases h'; exact ⟨he, es', hW⟩)⟩
def LSaid (s : Pgs) (f : Nat) : Prop := ∀ (w : World) (g gm : Nat) (P : Nat → Prop) (pa : Option Addr) (pc base : Nat) (k : Tr.Lw) (es : List (Int × Value)) (p dp : Int),
 dp = 17 - (f : Int) → qEj P g gm base → LWalks w g gm P pa pc base s k es → base ≤ w.heap.size → -9223372036854775808 ≤ p → p ≤ 9223372036854775807 →
 Calls Tryz.prog 45 #[.pointer (some ⟨g, 0, none⟩), .int .i64 p, .int .i64 dp] w fun e w' => LDone s f g gm P pa pc base k p w e w'
theorem turn2 {g gm : Nat} {w w' : World} (h : Turn [gm] w w') : Turn [g, gm] w w' := h.mono (fun b hb _ => by simp at hb; simp [hb])
theorem walk_shut (s : Pgs) (f : Nat) (w : World) (g gm : Nat) (P : Nat → Prop) (pa : Option Addr) (pc base : Nat) (k : Tr.Lw) (es : List (Int × Value)) (p dp : Int) (hdp : dp = 17 - (f : Int)) (hW : LWalks w g gm P pa pc base s k es) (h0 : -9223372036854775808 ≤ p) (h1 : p ≤ 9223372036854775807) (hx : p ∈ k.met ∨ 16 < dp) :
 Calls Tryz.prog 45 #[.pointer (some ⟨g, 0, none⟩), .int .i64 p, .int .i64 dp] w fun e w' => LDone s f g gm P pa pc base k p w e w' := by
 have HL : Hid (Tr.lwalk s f p k = none) := by
  cases f with
  | zero => rfl
  | succ f =>
    rcases hx with h | h
    · unfold Hid Tr.lwalk
      rw [if_neg (fun h' => (Tr.may_iff.1 h').1 h)]
    · omega
 have HW : Hid _ := hW
 have HX : Hid _ := hx
 clear hW hx hdp
 go_enter Tryz.func45, Tryz.ntmps45
 go_wp2_with (go_at_call 63; refine (meet_shut _ s g gm P pa pc base k es p dp HW.out h0 h1 HX.out).mono ?_; rintro e w1 ⟨rfl, b1⟩)
 exact ⟨rfl, LDone.no (Turn.of b1) HL.out⟩
theorem walk_none (s : Pgs) (f : Nat) (w : World) (g gm : Nat) (P : Nat → Prop) (pa : Option Addr) (pc base : Nat) (k : Tr.Lw) (es : List (Int × Value)) (p dp : Int) (hdp : dp = 17 - ((f + 1 : Nat) : Int)) (hA : qEj P g gm base) (hW : LWalks w g gm P pa pc base s k es) (hb : base ≤ w.heap.size) (h0 : -9223372036854775808 ≤ p) (h1 : p ≤ 9223372036854775807) (hm : p ∉ k.met)
 (hn : ¬ (1 ≤ p ∧ p ≤ s.length ∧ Lf.decodeE (Tr.page s p) = 0)) :
 Calls Tryz.prog 45 #[.pointer (some ⟨g, 0, none⟩), .int .i64 p, .int .i64 dp] w fun e w' => LDone s (f + 1) g gm P pa pc base k p w e w' := by
 have HL : Hid (Tr.lwalk s (f + 1) p k = none) := by
  unfold Hid Tr.lwalk
  rw [if_neg (fun h' => hn (Tr.may_iff.1 h').2)]
 have HW : Hid _ := hW
 have HA : Hid _ := hA
 have HN : Hid _ := hn
 have HM : Hid _ := hm
 have HB : Hid _ := hb
 have hd : dp ≤ 16 := by omega
 clear hW hn hdp hA hm hb
 go_enter Tryz.func45, Tryz.ntmps45
 go_wp2_with fail
 go_at_call 63
 refine (meet_in _ s g gm P pa pc base k es p dp HW.out HA.out HB.out h0 h1 HM.out hd).mono ?_
 rintro e w1 ⟨-, h2⟩
 obtain ⟨rfl, b1⟩ := h2 HN.out
 go_wp2_with fail
 exact ⟨rfl, LDone.no (Turn.of b1) HL.out⟩
theorem walk_leaf (s : Pgs) (f : Nat) (hf : f < 16) (w : World) (g gm : Nat) (P : Nat → Prop) (pa : Option Addr) (pc base : Nat) (k : Tr.Lw) (es : List (Int × Value)) (p dp : Int) (hdp : dp = 17 - ((f + 1 : Nat) : Int)) (hA : qEj P g gm base) (hW : LWalks w g gm P pa pc base s k es) (hb : base ≤ w.heap.size) (h0 : -9223372036854775808 ≤ p) (h1 : p ≤ 9223372036854775807) (hm : p ∉ k.met)
 (hn : 1 ≤ p ∧ p ≤ s.length ∧ Lf.decodeE (Tr.page s p) = 0) (hk : (Tr.nod s p).2 = []) :
 Calls Tryz.prog 45 #[.pointer (some ⟨g, 0, none⟩), .int .i64 p, .int .i64 dp] w fun e w' => LDone s (f + 1) g gm P pa pc base k p w e w' := by
 have HL : Hid (Tr.lwalk s (f + 1) p k = if k.leaf = 0 ∨ k.leaf = 16 - f then some (⟨k.met ++ [p], 16 - f⟩, Tr.keyF (Tr.nod s p).1, Tr.keyL (Tr.nod s p).1) else none) := by
  unfold Hid Tr.lwalk
  rw [if_pos (Tr.may_iff.2 ⟨hm, hn⟩), if_pos hk]
 have HOK : Hid (Lf.Ok (Tr.nod s p)) := Lf.ok_iff.1 (Lf.enc_decode hn.2.2).1
 have HW : Hid _ := hW
 have HA : Hid _ := hA
 have HN : Hid _ := hn
 have HM : Hid _ := hm
 have HB : Hid _ := hb
 have HKn : Hid _ := hk
 have hd : dp ≤ 16 := by omega
 obtain ⟨L, hL⟩ : ∃ L : Nat, L = 16 - f := ⟨_, rfl⟩
 obtain rfl : dp = (L : Int) := by omega
 have HLL : Hid (L = 16 - f) := hL
 have hLp : 1 ≤ L := by omega
 clear hW hn hdp hA hm hb hk hL hf
 go_enter Tryz.func45, Tryz.ntmps45
 go_wp2_with fail
 go_at_call 63
 refine (meet_in _ s g gm P pa pc base k es p (L : Int) HW.out HA.out HB.out h0 h1 HM.out hd).mono ?_
 rintro e w1 ⟨h2, -⟩
 obtain ⟨ia, il, ic, ka, kl, kc, rfl, W1, T1, I1, K1⟩ := h2 HN.out
 obtain ⟨w2, hw2, V2, b2, z2⟩ := q0q w1 63 [.slice ia il ic, .slice ka kl kc]
 have X2 : Hid _ := V2
 have HW2 : Hid (LWalks w2 g gm P pa pc base s ⟨k.met ++ [p], k.leaf⟩ (es ++ [(p, .agg #[.slice ia il ic, .slice ka kl kc])])) := W1.below b2
 have HT2 : Hid (Turn [g, gm] w w2) := (turn2 T1).on b2
 have HS1 : Hid (w.heap.size ≤ w1.heap.size) := T1.size
 have HI2 : Hid (rItms.rd w2 (fun b => w.heap.size ≤ b) [.slice ia il ic] (Tr.nod s p).1) := Rep.below I1 b2
 have HKl : Hid ((Tr.nod s p).2.length = kl) := (q0x K1).1
 have HIl : Hid ((Tr.nod s p).1.length = il) := (q0x I1).1
 obtain rfl : kl = 0 := by have h := HKl.out; rw [HKn.out] at h; exact h.symm
 obtain ⟨x0, x1⟩ := X2.out.two
 clear h2 W1 T1 I1 K1 V2 b2 z2
 go_wp2_with fail
 go_at_call 47
 refine (q4z _ _ _ _ _).mono ?_
 rintro e w3 ⟨rfl, b3⟩
 have X3 : Hid _ := X2.out.below b3
 have HW3 : Hid _ := HW2.out.below b3
 have HT3 : Hid (Turn [g, gm] w w3) := HT2.out.on b3
 have HI3 : Hid (rItms.rd w3 (fun b => w.heap.size ≤ b) [.slice ia il ic] (Tr.nod s p).1) := Rep.below HI2.out b3
 obtain ⟨c0, c1, c2⟩ := HW3.out.three
 have f2 := HW3.out.row.frozen 2
 obtain ⟨y0, y1⟩ := X3.out.two
 clear b3 x0 x1 hw2
 have hL16 : L ≤ 16 := by have := HLL.out; omega
 by_cases hlf : k.leaf = 0 ∨ k.leaf = L
 · have HEq : Hid (Tr.lwalk s (f + 1) p k = some (⟨k.met ++ [p], L⟩, Tr.keyF (Tr.nod s p).1, Tr.keyL (Tr.nod s p).1)) := by
    unfold Hid
    rw [HL.out, ← HLL.out, if_pos hlf]
   have W4 : Hid (LWalks (w3.setCell ⟨g, 2, none⟩ (.int .i64 (L : Int))) g gm P pa pc base s ⟨k.met ++ [p], L⟩ (es ++ [(p, .agg #[.slice ia il ic, .slice ka 0 kc])])) := HW3.out.setLeaf HA.out L
   have hgw : g < w.heap.size := by have := HA.out.gb; have := HB.out; omega
   have K4 : Hid (Kept (· ≠ g) w3 (w3.setCell ⟨g, 2, none⟩ (.int .i64 (L : Int)))) := (Kept.refl _ w3).setCell (p := ⟨g, 2, none⟩) (fun h => h rfl) _
   have X4 : Hid (Row (w3.setCell ⟨g, 2, none⟩ (.int .i64 (L : Int))) w1.heap.size 63 [.slice ia il ic, .slice ka 0 kc]) := X3.out.keep (K4.out.block _ (by have := HS1.out; show w1.heap.size ≠ g; omega))
   have I4 : Hid (rItms.rd (w3.setCell ⟨g, 2, none⟩ (.int .i64 (L : Int))) (fun b => w.heap.size ≤ b) [.slice ia il ic] (Tr.nod s p).1) := Rep.kept HI3.out K4.out (fun b hb _ => by show b ≠ g; omega)
   have T4 : Hid (Turn [g, gm] w (w3.setCell ⟨g, 2, none⟩ (.int .i64 (L : Int)))) := HT3.out.set (p := ⟨g, 2, none⟩) (.inr (by simp)) _
   obtain ⟨w4, hw4⟩ : ∃ w4, w3.setCell ⟨g, 2, none⟩ (.int .i64 (L : Int)) = w4 := ⟨_, rfl⟩
   rw [hw4] at W4 X4 I4 T4
   have hil1 : 1 ≤ il := by have h := HOK.out.some_; rw [HIl.out] at h; exact h
   have hil3 : il ≤ 3 := by have h := HOK.out.few; rw [HIl.out] at h; exact h
   obtain ⟨gi, offi, rfl, -, -, hat⟩ := q0Z I4.out (by omega)
   obtain ⟨i0, -⟩ := hat 0 (by rw [HIl.out]; omega)
   obtain ⟨i1, -⟩ := hat (il - 1) (by rw [HIl.out]; omega)
   have hF := Tr.keyF_at (show 0 < (Tr.nod s p).1.length by rw [HIl.out]; omega)
   have hG := Tr.keyL_at HIl.out (show il - 1 < (Tr.nod s p).1.length by rw [HIl.out]; omega)
   rw [hF] at i0
   simp only [Nat.zero_mul, Nat.add_zero] at i0
   rw [hG] at i1
   obtain ⟨z0, z1⟩ := X4.out.two
   have k1z : ((il : Int) - 1).toNat = il - 1 := by omega
   have k2z : (0 : Int) ≤ (il : Int) - 1 := by omega
   have k3z : (il : Int) - 1 < (il : Int) := by omega
   have k4z : (0 : Int) < (il : Int) := by omega
   clear hat hF hG
   by_cases hl0 : k.leaf = 0
   · have c2n : w3.cell? ⟨g, 2, none⟩ = some (.int .i64 0) := by have h := c2; simp only [hl0] at h; exact h
     clear c2 hl0 hlf
     go_wp2_with (go_at_call 64; refine (q4Q _).mono ?_; rintro e w' ⟨rfl, rfl⟩)
     go_quiet (fail)
     go_wp2
     go_ret2
     exact LDone.yes (T4.out.on (q1x (Below.refl _ _) _)) HEq.out rfl (W4.out.below (q1x (Below.refl _ _) _))
   · have hl1 : k.leaf = L := by omega
     have c2n : w3.cell? ⟨g, 2, none⟩ = some (.int .i64 (L : Int)) := by have h := c2; simp only [hl1] at h; exact h
     have hLz : ((L : Int) == 0) = false := beq_eq_false_iff_ne.2 (by omega)
     clear c2 hl0 hlf hl1
     go_wp2_with (go_at_call 64; refine (q4Q _).mono ?_; rintro e w' ⟨rfl, rfl⟩)
     go_quiet (fail)
     go_wp2
     go_ret2
     exact LDone.yes (T4.out.on (q1x (Below.refl _ _) _)) HEq.out rfl (W4.out.below (q1x (Below.refl _ _) _))
 · have HEq : Hid (Tr.lwalk s (f + 1) p k = none) := by
    unfold Hid
    rw [HL.out, ← HLL.out, if_neg hlf]
   have hz1 : ((k.leaf : Int) == 0) = false := beq_eq_false_iff_ne.2 (by omega)
   have hz2 : ((k.leaf : Int) == (L : Int)) = false := beq_eq_false_iff_ne.2 (by omega)
   clear hlf
   go_wp2_with (go_at_call 64; refine (q6z _).mono ?_; rintro e w' ⟨rfl, rfl⟩)
   exact ⟨rfl, LDone.no HT3.out HEq.out⟩
theorem walk_kids (s : Pgs) (f : Nat) (hf : f < 16) (hIH : LSaid s f) (w : World) (g gm : Nat) (P : Nat → Prop) (pa : Option Addr) (pc base : Nat) (k : Tr.Lw) (es : List (Int × Value)) (p dp : Int) (hdp : dp = 17 - ((f + 1 : Nat) : Int)) (hA : qEj P g gm base) (hW : LWalks w g gm P pa pc base s k es) (hb : base ≤ w.heap.size) (h0 : -9223372036854775808 ≤ p) (h1 : p ≤ 9223372036854775807) (hm : p ∉ k.met)
 (hn : 1 ≤ p ∧ p ≤ s.length ∧ Lf.decodeE (Tr.page s p) = 0) (hk : (Tr.nod s p).2 ≠ []) :
 Calls Tryz.prog 45 #[.pointer (some ⟨g, 0, none⟩), .int .i64 p, .int .i64 dp] w fun e w' => LDone s (f + 1) g gm P pa pc base k p w e w' := by
 have HL : Hid (Tr.lwalk s (f + 1) p k = Tr.lkids (Tr.lwalk s f) (Tr.nod s p) (Tr.nod s p).2.length ⟨k.met ++ [p], k.leaf⟩) := by
  unfold Hid
  conv => lhs; unfold Tr.lwalk
  rw [if_pos (Tr.may_iff.2 ⟨hm, hn⟩), if_neg hk]
 have HOK : Hid (Lf.Ok (Tr.nod s p)) := Lf.ok_iff.1 (Lf.enc_decode hn.2.2).1
 have HW : Hid _ := hW
 have HA : Hid _ := hA
 have HN : Hid _ := hn
 have HM : Hid _ := hm
 have HB : Hid _ := hb
 have HKn : Hid _ := hk
 have IH : Hid (LSaid s f) := hIH
 have hd : dp ≤ 16 := by omega
 have hd0 : 1 ≤ dp := by omega
 have HDP : Hid (dp + 1 = 17 - (f : Int)) := by unfold Hid; omega
 clear hW hn hA hm hb hk hIH hdp
 obtain ⟨k1, hk1⟩ : ∃ k1 : Tr.Lw, k1 = ⟨k.met ++ [p], k.leaf⟩ := ⟨_, rfl⟩
 rw [← hk1] at HL
 go_enter Tryz.func45, Tryz.ntmps45
 go_wp2_with fail
 go_at_call 63
 refine (meet_in _ s g gm P pa pc base k es p dp HW.out HA.out HB.out h0 h1 HM.out hd).mono ?_
 rintro e w1 ⟨h2, -⟩
 obtain ⟨ia, il, ic, ka, kl, kc, rfl, W1, T1, I1, K1⟩ := h2 HN.out
 rw [← hk1] at W1
 clear hk1
 obtain ⟨n, hnn⟩ : ∃ n, n = Tr.nod s p := ⟨_, rfl⟩
 rw [← hnn] at I1 K1 HL HOK HKn
 clear hnn
 obtain ⟨w2, hw2, V2, b2, z2⟩ := q0q w1 63 [.slice ia il ic, .slice ka kl kc]
 have X2 : Hid _ := V2
 have HW2 : Hid (LWalks w2 g gm P pa pc base s k1 (es ++ [(p, .agg #[.slice ia il ic, .slice ka kl kc])])) := W1.below b2
 have HT2 : Hid (Turn [g, gm] w w2) := (turn2 T1).on b2
 have HS1 : Hid (w.heap.size ≤ w1.heap.size) := T1.size
 have HI2 : Hid (rItms.rd w2 (fun b => w.heap.size ≤ b) [.slice ia il ic] n.1) := Rep.below I1 b2
 have HK2 : Hid (rKids.rd w2 (fun b => w.heap.size ≤ b) [.slice ka kl kc] n.2) := Rep.below K1 b2
 have HKl : Hid (n.2.length = kl) := (q0x K1).1
 have HIl : Hid (n.1.length = il) := (q0x I1).1
 have HIK : Hid (kl = il + 1) := by
  have h := Tr.kids_len HOK.out HKn.out
  rw [HIl.out, HKl.out] at h
  exact h
 obtain ⟨x0, x1⟩ := X2.out.two
 have hkz : ¬ (kl : Int) = 0 := by have := HIK.out; omega
 have hil3 : il ≤ 3 := by have h := HOK.out.few; rw [HIl.out] at h; exact h
 have hkl4 : kl ≤ 4 := by have := HIK.out; omega
 have hgw : g < w.heap.size := by have := HA.out.gb; have := HB.out; omega
 have hgmw : gm < w.heap.size := by have := HA.out.gmb; have := HB.out; omega
 clear h2 W1 T1 I1 K1 V2 b2 z2
 go_wp2_with fail
 go_at_call 47
 refine (q4z _ _ _ _ _).mono ?_
 rintro e w3 ⟨rfl, b3⟩
 have X3 : Hid _ := X2.out.below b3
 have HW3 : Hid _ := HW2.out.below b3
 have HT3 : Hid (Turn [g, gm] w w3) := HT2.out.on b3
 have HI3 : Hid (rItms.rd w3 (fun b => w.heap.size ≤ b) [.slice ia il ic] n.1) := Rep.below HI2.out b3
 have HK3 : Hid (rKids.rd w3 (fun b => w.heap.size ≤ b) [.slice ka kl kc] n.2) := Rep.below HK2.out b3
 have HDK : Hid (decide ((kl : Int) = 0) = false) := decide_eq_false hkz
 obtain ⟨y0, y1⟩ := X3.out.two
 clear b3 x0 x1 hw2 X2 HW2 HT2 HI2 HK2
 have BOX : Hid (∀ {wr : World}, Turn [g, gm] w3 wr → Row wr w1.heap.size 63 [.slice ia il ic, .slice ka kl kc]) := fun h => h.row X3.out (by have := HS1.out; simp; omega)
 have ITM : Hid (∀ {wr : World}, Turn [g, gm] w3 wr → rItms.rd wr (fun b => w.heap.size ≤ b) [.slice ia il ic] n.1) := fun h => h.rep HI3.out (fun b hb _ => by simp; omega)
 have KID : Hid (∀ {wr : World}, Turn [g, gm] w3 wr → rKids.rd wr (fun b => w.heap.size ≤ b) [.slice ka kl kc] n.2) := fun h => h.rep HK3.out (fun b hb _ => by simp; omega)
 rw [HDK.out]
 go_wp2
 clear y0 y1
 go_loopw [6, 7, 54] (fun l m i wr => ∃ (j : Nat) (k' : Tr.Lw) (es' : List (Int × Value)) (a b : UInt64), j ≤ kl ∧ i = .int .i64 j ∧ l = .int .u64 (a.toNat : Int) ∧ m = .int .u64 (b.toNat : Int) ∧ Hid (Tr.lkids (Tr.lwalk s f) n j k1 = some (k', a, b)) ∧ Hid (LWalks wr g gm P pa pc base s k' es') ∧ Hid (Turn [g, gm] w3 wr)) (fun _ _ i _ => kl - (intOf i).toNat)
 case atStart => exact ⟨0, k1, _, 0, 0, Nat.zero_le _, rfl, rfl, rfl, rfl, HW3, Turn.refl _ _⟩
 case round =>
  obtain ⟨j, k', es', a, b, hj, rfl, rfl, rfl, HJ, HWj, HTj⟩ := hrel
  by_cases hlt : j < kl
  · have hjk : j < n.2.length := by rw [HKl.out]; exact hlt
    obtain ⟨gk, offk, rfl, -, -, hak⟩ := q2z (KID.out HTj.out) (by omega)
    obtain ⟨ck, kd1, kd2⟩ := hak j hjk
    have hjz : (j : Int) < (kl : Int) := by omega
    have HNX : Hid _ := Tr.lkids_next HJ.out hjk
    obtain ⟨kd, hkd⟩ : ∃ kd, kd = n.2[j] := ⟨_, rfl⟩
    rw [← hkd] at ck kd1 kd2 HNX
    have HBj : Hid (base ≤ wr.heap.size) := zw1 HB.out (zw1 HT3.out.size HTj.out.size)
    have HJK : Hid _ := hjk
    clear hak hkd hjk
    go_wp2_with fail
    go_at_call 45
    refine (IH.out wr g gm P pa pc base k' es' kd (dp + 1) HDP.out HA.out HWj.out HBj.out kd1 kd2).mono ?_
    rintro e w5 ⟨t5, hno, hyes⟩
    have HT5 : Hid (Turn [g, gm] w3 w5) := HTj.out.trans t5
    cases hr : Tr.lwalk s f kd k' with
    | none =>
      have e9 := hno hr
      subst e9
      have HN0 : Hid (Tr.lwalk s (f + 1) p k = none) := by
       unfold Hid
       rw [HL.out]
       refine Tr.lkids_all (j := j + 1) ?_ (by have := HJK.out; omega)
       rw [HNX.out, hr]
       rfl
      clear hno hyes hr t5 ck
      go_wp2_with fail
      exact ⟨rfl, LDone.no (HT3.out.trans HT5.out) HN0.out⟩
    | some r =>
      obtain ⟨k5, a5, b5⟩ := r
      obtain ⟨rfl, es5, hW5⟩ := hyes k5 a5 b5 hr
      have HW5 : Hid _ := hW5
      have HR : Hid _ := hr
      clear hno hyes hr t5 hW5 ck
      obtain ⟨n0, n1⟩ := (BOX.out HT5.out).two
      have IT5 : Hid (rItms.rd w5 (fun b => w.heap.size ≤ b) [.slice ia il ic] n.1) := ITM.out HT5.out
      have HFt : Hid (∀ x, (Tr.fits n j a5 b5 = true → x = some (k5, (if j = 0 then a5 else a), b5)) → (Tr.fits n j a5 b5 = false → x = none) → Tr.lkids (Tr.lwalk s f) n (j + 1) k1 = x) := fun x h1 h2 => by
       rw [HNX.out, HR.out, Option.bind_some]
       cases hc : Tr.fits n j a5 b5
       · simp [h2 hc]
       · simp [h1 hc]
      have HFi : Hid _ := Tr.fits_iff (n := n) (j := j) (a := a5) (b := b5) (by have := HIK.out; rw [HIl.out]; omega)
      have hil0 : 0 < il := by have h := HOK.out.some_; rw [HIl.out] at h; exact h
      obtain ⟨gi, offi, rfl, -, -, hat⟩ := q0Z IT5.out hil0
      have ENDNO : Hid (Tr.lkids (Tr.lwalk s f) n (j + 1) k1 = none → Tr.lwalk s (f + 1) p k = none) := fun h => by rw [HL.out]; exact Tr.lkids_all h (by have := HJK.out; omega)
      have hkil : kl ≤ il + 1 ∧ il + 1 ≤ kl := by have := HIK.out; omega
      obtain ⟨hkil1, hkil2⟩ := hkil
      -- rounds
      by_cases hj0 : j = 0
      · have hjz0 : ((j : Int) == 0) = true := beq_iff_eq.2 (by omega)
        have hjl : j < il := by omega
        obtain ⟨u0, -⟩ := hat j (by rw [HIl.out]; exact hjl)
        obtain ⟨U, hU⟩ : ∃ U, U = (n.1[j]'(by rw [HIl.out]; exact hjl)).1 := ⟨_, rfl⟩
        rw [← hU] at u0
        have HU : Hid (U = (n.1[j]'(by rw [HIl.out]; exact hjl)).1) := hU
        have hjl1 : ((j : Int) == (il : Int)) = false := beq_eq_false_iff_ne.2 (by omega)
        have hjl2 : (j : Int) < (il : Int) := by omega
        clear hU
        by_cases hc : b5.toNat < U.toNat
        · have hcz : (b5.toNat : Int) < (U.toNat : Int) := by omega
          have HJ1 : Hid (Tr.lkids (Tr.lwalk s f) n (j + 1) k1 = some (k5, a5, b5)) := HFt.out _ (fun _ => by rw [if_pos hj0]) (fun h => absurd (HFi.out.2 ⟨fun h => absurd h (by omega), fun _ => by rw [HU.out] at hc; exact hc⟩) (by rw [h]; decide))
          clear hat hj0
          go_wp2_with (go_at_call 64; first | (refine (q4Q _).mono ?_; rintro e w' ⟨rfl, rfl⟩) | (refine (q6z _).mono ?_; rintro e w' ⟨rfl, rfl⟩))
          go_roundw
          case rel => exact ⟨j + 1, k5, es5, a5, b5, by omega, by go_num, rfl, rfl, HJ1, HW5, HT5⟩
          case measure => simp [intOf]; omega
        · have hcz : ¬ (b5.toNat : Int) < (U.toNat : Int) := by omega
          have HN0 : Hid (Tr.lwalk s (f + 1) p k = none) := ENDNO.out (HFt.out none (fun h => absurd (HFi.out.1 h) (fun h' => hc (by have := h'.2 (by rw [HIl.out]; exact hjl); rw [← HU.out] at this; exact this))) (fun _ => rfl))
          clear hat hj0
          go_wp2_with (go_at_call 64; first | (refine (q4Q _).mono ?_; rintro e w' ⟨rfl, rfl⟩) | (refine (q6z _).mono ?_; rintro e w' ⟨rfl, rfl⟩))
          exact ⟨rfl, LDone.no (HT3.out.trans HT5.out) HN0.out⟩
      · obtain ⟨t0, -⟩ := hat (j - 1) (by rw [HIl.out]; omega)
        obtain ⟨Z, hZ⟩ : ∃ Z, Z = (n.1[j - 1]'(by rw [HIl.out]; omega)).1 := ⟨_, rfl⟩
        rw [← hZ] at t0
        have HZ : Hid (Z = (n.1[j - 1]'(by rw [HIl.out]; omega)).1) := hZ
        have hjz0 : ((j : Int) == 0) = false := beq_eq_false_iff_ne.2 (by omega)
        have k1z : ((j : Int) - 1).toNat = j - 1 := by omega
        have k2z : (0 : Int) ≤ (j : Int) - 1 := by omega
        have k3z : (j : Int) - 1 < (il : Int) := by omega
        clear hZ
        by_cases hl : Z.toNat ≤ a5.toNat
        · have hlz : (a5.toNat : Int) ≥ (Z.toNat : Int) := by omega
          by_cases hjl : j < il
          · obtain ⟨u0, -⟩ := hat j (by rw [HIl.out]; exact hjl)
            obtain ⟨U, hU⟩ : ∃ U, U = (n.1[j]'(by rw [HIl.out]; exact hjl)).1 := ⟨_, rfl⟩
            rw [← hU] at u0
            have HU : Hid (U = (n.1[j]'(by rw [HIl.out]; exact hjl)).1) := hU
            have hjl1 : ((j : Int) == (il : Int)) = false := beq_eq_false_iff_ne.2 (by omega)
            have hjl2 : (j : Int) < (il : Int) := by omega
            clear hU
            by_cases hc : b5.toNat < U.toNat
            · have hcz : (b5.toNat : Int) < (U.toNat : Int) := by omega
              have HJ1 : Hid (Tr.lkids (Tr.lwalk s f) n (j + 1) k1 = some (k5, a, b5)) := HFt.out _ (fun _ => by rw [if_neg (by omega)]) (fun h => absurd (HFi.out.2 ⟨fun _ => by rw [HZ.out] at hl; exact hl, fun _ => by rw [HU.out] at hc; exact hc⟩) (by rw [h]; decide))
              clear hat
              go_wp2_with (go_at_call 64; first | (refine (q4Q _).mono ?_; rintro e w' ⟨rfl, rfl⟩) | (refine (q6z _).mono ?_; rintro e w' ⟨rfl, rfl⟩))
              go_roundw
              case rel => exact ⟨j + 1, k5, es5, a, b5, by omega, by go_num, rfl, rfl, HJ1, HW5, HT5⟩
              case measure => simp [intOf]; omega
            · have hcz : ¬ (b5.toNat : Int) < (U.toNat : Int) := by omega
              have HN0 : Hid (Tr.lwalk s (f + 1) p k = none) := ENDNO.out (HFt.out none (fun h => absurd (HFi.out.1 h) (fun h' => hc (by have := h'.2 (by rw [HIl.out]; exact hjl); rw [← HU.out] at this; exact this))) (fun _ => rfl))
              clear hat
              go_wp2_with (go_at_call 64; first | (refine (q4Q _).mono ?_; rintro e w' ⟨rfl, rfl⟩) | (refine (q6z _).mono ?_; rintro e w' ⟨rfl, rfl⟩))
              exact ⟨rfl, LDone.no (HT3.out.trans HT5.out) HN0.out⟩
          · have hjl1 : ((j : Int) == (il : Int)) = true := beq_iff_eq.2 (by omega)
            have HJ1 : Hid (Tr.lkids (Tr.lwalk s f) n (j + 1) k1 = some (k5, a, b5)) := HFt.out _ (fun _ => by rw [if_neg (by omega)]) (fun h => absurd (HFi.out.2 ⟨fun _ => by rw [HZ.out] at hl; exact hl, fun h => absurd h (by rw [HIl.out]; exact hjl)⟩) (by rw [h]; decide))
            clear hat
            go_wp2_with (go_at_call 64; first | (refine (q4Q _).mono ?_; rintro e w' ⟨rfl, rfl⟩) | (refine (q6z _).mono ?_; rintro e w' ⟨rfl, rfl⟩))
            go_roundw
            case rel => exact ⟨j + 1, k5, es5, a, b5, by omega, by go_num, rfl, rfl, HJ1, HW5, HT5⟩
            case measure => simp [intOf]; omega
        · have hlz : ¬ (a5.toNat : Int) ≥ (Z.toNat : Int) := by omega
          have HN0 : Hid (Tr.lwalk s (f + 1) p k = none) := ENDNO.out (HFt.out none (fun h => absurd (HFi.out.1 h) (fun h' => hl (by have := h'.1 (by omega); rw [← HZ.out] at this; exact this))) (fun _ => rfl))
          clear hat
          go_wp2_with (go_at_call 64; first | (refine (q4Q _).mono ?_; rintro e w' ⟨rfl, rfl⟩) | (refine (q6z _).mono ?_; rintro e w' ⟨rfl, rfl⟩))
          exact ⟨rfl, LDone.no (HT3.out.trans HT5.out) HN0.out⟩
  · obtain rfl : kl = j := by omega
    go_wp2
    go_ret2
    exact LDone.yes (HT3.out.trans HTj.out) (by rw [HL.out, HKl.out]; exact HJ.out) rfl HWj.out
theorem walk_u (s : Pgs) : ∀ f, f ≤ 16 → LSaid s f
 | 0, _ => by
   intro w g gm P pa pc base k es p dp hdp hA hW hb h0 h1
   exact walk_shut s 0 w g gm P pa pc base k es p dp hdp hW h0 h1 (.inr (by omega))
 | f + 1, hf => by
   intro w g gm P pa pc base k es p dp hdp hA hW hb h0 h1
   by_cases hm : p ∈ k.met
   · exact walk_shut s (f + 1) w g gm P pa pc base k es p dp hdp hW h0 h1 (.inl hm)
   · by_cases hn : 1 ≤ p ∧ p ≤ s.length ∧ Lf.decodeE (Tr.page s p) = 0
     · by_cases hk : (Tr.nod s p).2 = []
       · exact walk_leaf s f (by omega) w g gm P pa pc base k es p dp hdp hA hW hb h0 h1 hm hn hk
       · exact walk_kids s f (by omega) (walk_u s f (by omega)) w g gm P pa pc base k es p dp hdp hA hW hb h0 h1 hm hn hk
     · exact walk_none s f w g gm P pa pc base k es p dp hdp hA hW hb h0 h1 hm hn
end Go.Proofs.YtkbmadoaomoojaaGreat
