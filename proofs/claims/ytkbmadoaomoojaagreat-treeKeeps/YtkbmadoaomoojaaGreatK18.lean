/-
  Facts that the proof rests on, part 19. Conditions: those that each of them names.
-/
import Derived.Deep.MidRow
import Derived.Deep.WholeRow
import Derived.Laws.ResultCell
import Derived.Test.YtkbmadoaomoojaaGreatK00
import Derived.Test.YtkbmadoaomoojaaGreatK06
import Derived.Test.YtkbmadoaomoojaaGreatK09
import Derived.Test.YtkbmadoaomoojaaGreatK11
namespace Go.Proofs.YtkbmadoaomoojaaGreat
set_option maxRecDepth 20000
open Go.RowKit
set_option linter.unusedVariables false
def halfs (k : Nat) : List Value := (List.range 16).map fun i => .int .u32 ((if i < k then Crc.steps 4 i else 0 : Nat) : Int)
theorem halfs_length (k : Nat) : (halfs k).length = 16 := by simp [halfs]
theorem halfs_get (k i : Nat) (hi : i < 16) : (halfs k)[i]? = some (.int .u32 ((if i < k then Crc.steps 4 i else 0 : Nat) : Int)) := by
 simp [halfs, List.getElem?_range hi]
theorem halfs_set (k : Nat) (hk : k < 16) : (halfs k).set k (.int .u32 (Crc.steps 4 k : Nat)) = halfs (k + 1) := by
 apply List.ext_getElem?
 intro i
 rw [List.getElem?_set]
 by_cases hi : i < 16
 · rw [halfs_get _ i hi, halfs_get _ i hi, halfs_length]
   by_cases e : k = i
   · subst e; simp [hk]
   · simp only [if_neg e]
     by_cases h : i < k
     · simp [h, show i < k + 1 from by omega]
     · simp [h, show ¬ i < k + 1 from by omega]
 · rw [List.getElem?_eq_none (l := halfs k) (by rw [halfs_length]; omega), List.getElem?_eq_none (l := halfs (k + 1)) (by rw [halfs_length]; omega), halfs_length]
   by_cases e : k = i
   · omega
   · simp [e]
theorem info_halves : (Tryz.prog.info? 219).map (fun i => i.size) = some 16 := by kernel_rfl
theorem range_zero (w : World) (o : Obj) : ((w.alloc o).alloc (.cells (halfs 0).toArray 219)).rangeAt (w.heap.size + 1) 0 (halfs 0) := by
 intro j v hv
 rw [Nat.zero_add]
 have := cell_of_row ((w.alloc o).alloc (.cells (halfs 0).toArray 219)) (w.heap.size + 1) j (halfs 0).toArray 219 (0, 0) (by simpa only [World.size_alloc] using heap_alloc_last (w.alloc o) (.cells (halfs 0).toArray 219))
 rw [this]
 simpa using hv
theorem there_new (w : World) (c : Array Value) (t : TypeId) : (w.alloc (.cells c t)).there w.heap.size 0 c.size := by
 intro j hj
 have := cell_of_row (w.alloc (.cells c t)) w.heap.size j c t (0, 0) (heap_alloc_last w _)
 rw [Nat.zero_add, this]
 refine ⟨by simp [hj], ?_⟩
 simp
theorem range_set {w : World} {b k : Nat} (hk : k < 16) (h : w.rangeAt b 0 (halfs k)) : (w.setCell ⟨b, k, none⟩ (.int .u32 (Crc.steps 4 k : Nat))).rangeAt b 0 (halfs (k + 1)) := by
 intro j v hv
 rw [Nat.zero_add]
 have hj : j < 16 := by have := (List.getElem?_eq_some_iff.1 hv).1; rw [halfs_length] at this; exact this
 have hc : ∀ i, i < 16 → ∃ u, (halfs k)[i]? = some u ∧ w.cell? ⟨b, i, none⟩ = some u := by
  intro i hi
  have e := halfs_get k i hi
  exact ⟨_, e, by have := h i _ e; rwa [Nat.zero_add] at this⟩
 rw [← halfs_set k hk, List.getElem?_set] at hv
 by_cases e : k = j
 · subst e
   obtain ⟨u, _, hu⟩ := hc k hk
   rw [World.cell?_setCell_same _ _ _ hu]
   simpa [halfs_length, hk] using hv
 · rw [if_neg e] at hv
   obtain ⟨u, e1, hu⟩ := hc j hj
   rw [World.cell?_setCell_other _ _ _ _ (fun h => e (Addr.mk.inj h).2.1), hu, ← e1, hv]
theorem there_set {w : World} {b n : Nat} (h : w.there b 0 n) (x : Addr) (v : Value) : (w.setCell x v).there b 0 n := by
 intro j hj
 obtain ⟨h1, h2⟩ := h j hj
 refine ⟨?_, by rw [World.frozen?_setCell]; exact h2⟩
 obtain ⟨u, hu⟩ := Option.isSome_iff_exists.1 h1
 by_cases e : x = ⟨b, 0 + j, none⟩
 · subst e; rw [World.cell?_setCell_same _ _ _ hu]; rfl
 · rw [World.cell?_setCell_other _ _ _ _ e, hu]; rfl
theorem halfs_one (k : Nat) : ∀ v ∈ halfs k, v.oneCell' = true := by
 intro v hv
 simp only [halfs, List.mem_map] at hv
 obtain ⟨i, _, rfl⟩ := hv
 rfl
theorem below_setCells {B b : Nat} {a : World} (hb : B ≤ b) : ∀ (vs : List Value) (o : Nat) {w : World}, Below B a w → Below B a (w.setCells b o vs)
 | [], _, _, h => h
 | v :: r, o, w, h => below_setCells hb r (o + 1) (h.setCell (p := ⟨b, o, none⟩) hb v)
theorem results_range {fn : Func} {p : Tmp} {ty : TypeId} {tmps : Array Value} {w : World} {b : Nat} {cs : List Value} {d : TypeDesc} (h : fn.results = #[.cell p ty]) (hp : tmps.getD p undef = .pointer (some ⟨b, 0, none⟩))
 (hc : w.rangeAt b 0 cs) (hu : Tryz.prog.underlying ty = some d) (hd : d.isRow = true) (hi : (Tryz.prog.info? ty).map (·.size) = some cs.length) :
 (results fn tmps).run Tryz.prog w = .ok (.agg cs.toArray) w := by
 have hp' : tmps[p]?.getD undef = .pointer (some ⟨b, 0, none⟩) := by simpa using hp
 simp [results, h, hp', asAddr, run_loadVar_mid w b 0 ty cs d hc hu hd hi]
def Filled (w wr : World) (k : Nat) : Prop := Hid (wr.rangeAt (w.heap.size + 1) 0 (halfs k) ∧ wr.there w.heap.size 0 16 ∧ wr.there (w.heap.size + 1) 0 16 ∧ Below w.heap.size w wr)
theorem fill {w wr : World} {k : Nat} (hk : k < 16) (h : wr.rangeAt (w.heap.size + 1) 0 (halfs k) ∧ wr.there w.heap.size 0 16 ∧ wr.there (w.heap.size + 1) 0 16 ∧ Below w.heap.size w wr) :
 Filled w (wr.setCell ⟨w.heap.size + 1, k, none⟩ (.int .u32 (Crc.steps 4 k : Nat))) (k + 1) := by
 obtain ⟨h1, h2, h3, h4⟩ := h
 exact ⟨range_set hk h1, there_set h2 _ _, there_set h3 _ _, h4.setCell (p := ⟨w.heap.size + 1, k, none⟩) (Nat.le_succ _) _⟩
theorem steps_succ (j c : Nat) : Crc.steps (j + 1) c = Crc.step (Crc.steps j c) := by
 rw [Crc.steps_add]; rfl
set_option maxHeartbeats 1600000 in
theorem halves_u (w : World) : Calls Tryz.prog 150 #[] w fun e w' => e = .returned (.agg (halfs 16).toArray) ∧ Below w.heap.size w w' := by
 have hr0 := range_zero w (.cells (halfs 0).toArray 219)
 have ht0 : ((w.alloc (.cells (halfs 0).toArray 219)).alloc (.cells (halfs 0).toArray 219)).there w.heap.size 0 16 := World.there_alloc (there_new w (halfs 0).toArray 219) _
 have ht1 : ((w.alloc (.cells (halfs 0).toArray 219)).alloc (.cells (halfs 0).toArray 219)).there (w.heap.size + 1) 0 16 := by
  have := there_new (w.alloc (.cells (halfs 0).toArray 219)) (halfs 0).toArray 219
  simpa [halfs_length] using this
 have hb0 : Below w.heap.size w ((w.alloc (.cells (halfs 0).toArray 219)).alloc (.cells (halfs 0).toArray 219)) := ((Below.refl _ _).alloc (Nat.le_refl _) _).alloc (by simp) _
 have H0 : Hid (_ ∧ _ ∧ _ ∧ _) := ⟨hr0, ht0, ht1, hb0⟩
 clear hr0 ht0 ht1 hb0
 go_enter Tryz.func150, Tryz.ntmps150
 go_wp2
 go_loopw [5] (fun i wr => ∃ k : Nat, k ≤ 16 ∧ i = .int .i64 k ∧ Filled w wr k)
  (fun i _ => 16 - (intOf i).toNat)
 case atStart => exact ⟨0, Nat.zero_le _, rfl, H0⟩
 case round =>
  obtain ⟨k, hk, rfl, HK⟩ := hrel
  clear H0
  by_cases hlt : k < 16
  · have hw : IntKind.u32.wrap (k : Int) = (k : Int) := by simp [IntKind.wrap, IntKind.bits, IntKind.signed]; omega
    go_wp2
    clear hw
    go_loop [3, 10] (fun v i => ∃ (j y : Nat), j ≤ 4 ∧ i = .int .i64 j ∧ v = .int .u32 y ∧ y < 4294967296 ∧ Hid (y = Crc.steps j k))
     (fun _ i => 4 - (intOf i).toNat)
    case atStart => exact ⟨0, k, Nat.zero_le _, rfl, rfl, by omega, rfl⟩
    case round =>
     obtain ⟨j, y, hj, rfl, rfl, hy, HY⟩ := hrel
     by_cases hj8 : j < 4
     · have hstep : Crc.steps (j + 1) k = Crc.step y := by rw [steps_succ, ← HY.out]
       have hylt := Crc.step_lt hy
       have HST : Hid _ := hstep
       clear hstep
       by_cases ho : y % 2 = 1
       · have hob := odd_bit y hy ho
         have hxy : bits BinOp.xor IntKind.u32 ((y : Int) / 2) 2197175160 = ((Crc.step y : Nat) : Int) := by
          have h1 := u32_xor_nat (y / 2) 2197175160 (by omega) (by decide)
          have h2 : Crc.step y = (y / 2) ^^^ 2197175160 := by unfold Crc.step; rw [if_pos ho]
          rw [h2]
          simpa using h1
         have HXY : Hid _ := hxy
         clear hxy ho
         go_wp2
         go_round
         case rel => exact ⟨j + 1, Crc.step y, by omega, by go_num, by rw [HXY.out], hylt, HST.out.symm⟩
         case measure => simp [intOf]; omega
       · have hob := even_bit y hy ho
         have hst : Crc.step y = y / 2 := by unfold Crc.step; rw [if_neg ho]
         have HSY : Hid _ := hst
         clear hst ho
         go_wp2
         go_round
         case rel => exact ⟨j + 1, y / 2, by omega, by go_num, by go_num, by omega, by unfold Hid; rw [HST.out, HSY.out]⟩
         case measure => simp [intOf]; omega
     · have e : j = 4 := by omega
       subst e
       obtain ⟨hr, ht0, ht1, hb⟩ := Hid.out HK
       obtain ⟨hs1, hf⟩ := ht1 k hlt
       rw [Nat.zero_add] at hs1 hf
       obtain ⟨u, hu⟩ := Option.isSome_iff_exists.1 hs1
       have H1 := fill hlt (Hid.out HK)
       rw [← HY.out] at H1
       clear hr ht0 ht1 hb hs1 HK
       go_wp2
       go_roundw
       case rel => exact ⟨k + 1, by omega, by go_num, H1⟩
       case measure => simp [intOf]; omega
  · have e : k = 16 := by omega
    subst e
    obtain ⟨hr, ht0, ht1, hb⟩ := Hid.out HK
    have HB : Hid _ := hb
    have hl := halfs_length 16
    have ho := halfs_one 16
    clear HK ht1 hb
    generalize hH : halfs 16 = H at *
    have HH : Hid _ := hH
    clear hH
    go_wp2_with (first
     | refine wpList_load_mid rfl 219 _ rfl _ 0 rfl H _ hr Tryz.underlying219 rfl (by rw [hl]; exact info_halves) ?_
     | refine wpList_store_mid rfl 219 _ _ rfl _ 0 H.toArray rfl rfl (by simpa [hl] using ht0) (by simpa [hl] using info_halves) (all_oneCell_toArray ho) ?_)
    have hgot := World.rangeAt_setCells_same wr w.heap.size 0 H (by rw [hl]; exact ht0)
    rw [HH.out]
    refine bodyPost_ret (v := .agg H.toArray) ?_ rfl ⟨rfl, below_setCells (Nat.le_refl _) H 0 HB.out⟩
    exact results_range rfl rfl hgot Tryz.underlying219 rfl (by rw [hl]; exact info_halves)
def IsTable (H : List Value) : Prop := H.length = 16 ∧ (∀ v ∈ H, v.oneCell' = true) ∧ ∀ i, i < 16 → H[i]? = some (.int .u32 (Crc.steps 4 i : Nat))
theorem isTable : IsTable (halfs 16) := ⟨halfs_length 16, halfs_one 16, fun i hi => by rw [halfs_get 16 i hi, if_pos hi]⟩
theorem table_u (w : World) : Calls Tryz.prog 150 #[] w fun e w' => ∃ H, e = .returned (.agg H.toArray) ∧ IsTable H ∧ Below w.heap.size w w' := by
 refine (halves_u w).mono ?_
 rintro e w' ⟨rfl, hb⟩
 exact ⟨halfs 16, rfl, isTable, hb⟩
def TableAt (w : World) (B : Nat) : Prop := Hid (∀ i, i < 16 → w.cell? ⟨B, i, none⟩ = some (.int .u32 (Crc.steps 4 i : Nat)))
theorem table_laid (w : World) (H : List Value) (hH : IsTable H) (C : Array Value) (hC : C.size = 16) :
 (w.alloc (.cells C 219)).there w.heap.size 0 H.toArray.size ∧ TableAt ((w.alloc (.cells C 219)).setCells w.heap.size 0 H) w.heap.size := by
 obtain ⟨h1, _, h3⟩ := hH
 have ht := there_new w C 219
 rw [hC] at ht
 have he : H.toArray.size = 16 := by rw [List.size_toArray, h1]
 refine ⟨by rw [he]; exact ht, fun i hi => ?_⟩
 have h := World.rangeAt_setCells_same (w.alloc (.cells C 219)) w.heap.size 0 H (by rw [h1]; exact ht)
 have := h i _ (h3 i hi)
 rw [Nat.zero_add] at this
 exact this
def SumSaid : Prop := ∀ (w : World) (a : Option Addr) (n cap : Nat) (l : List UInt8), n ≤ 140737488355328 → n ≤ cap → IsB w a n l →
 Calls Tryz.prog 137 #[.slice a n cap] w fun e w' => e = .returned (.int .u32 (Crc.sum l : Nat)) ∧ Below w.heap.size w w'
def SealSaid : Prop := ∀ (w : World) (a : Option Addr) (n cap : Nat) (l : List UInt8), n ≤ 140737488351232 → n ≤ cap → (a = none → cap = 0) → IsB w a n l →
 Calls Tryz.prog 130 #[.slice a n cap] w fun e w' => ∃ b d, e = .returned (.slice b (n + 4) d) ∧
  w'.ownsRow w.heap.size 5 1 (.slice b (n + 4) d) (n + 4) (cellsOf (Crc.sealed l)) ∧ Below w.heap.size w w'
def OpenSaid : Prop := ∀ (w : World) (a : Option Addr) (n cap : Nat) (l : List UInt8), n ≤ 140737488351236 → n ≤ cap → (a = none → cap = 0) → IsB w a n l →
 Calls Tryz.prog 122 #[.slice a n cap] w fun e w' => ∃ b len d, e = .returned (.tuple #[.slice b len d, .int .i64 (Crc.openE l)]) ∧
  w'.ownsRow w.heap.size 5 1 (.slice b len d) len (cellsOf (Crc.openL l)) ∧ Below w.heap.size w w'
end Go.Proofs.YtkbmadoaomoojaaGreat
namespace Go.Proofs.YtkbmadoaomoojaaGreat
set_option maxRecDepth 20000
open Go.RowKit
def MoreSaid : Prop := ∀ (w : World) (c : Nat) (a : Option Addr) (n cap : Nat) (l : List UInt8), c < 4294967296 → n ≤ 140737488355328 → n ≤ cap → IsB w a n l →
 Calls Tryz.prog 145 #[.int .u32 c, .slice a n cap] w fun e w' => e = .returned (.int .u32 (Crc.more c l : Nat)) ∧ Below w.heap.size w w'
end Go.Proofs.YtkbmadoaomoojaaGreat
namespace Go.Proofs.YtkbmadoaomoojaaGreat
set_option maxRecDepth 20000
open Go.RowKit
set_option linter.unusedVariables false
theorem half_step (y : Nat) (hy : y < 4294967296) : bits BinOp.xor IntKind.u32 ((y : Int) / 16) ((Crc.steps 4 (y % 16) : Nat) : Int) = ((Crc.steps 4 y : Nat) : Int) := by
 rw [show (y : Int) / 16 = ((y / 16 : Nat) : Int) from by simp, u32_xor_nat _ _ (by omega) (Crc.steps_lt 4 (by omega))]
 have := Crc.steps_split 4 y
 rw [show (2 : Nat) ^ 4 = 16 from rfl] at this
 rw [this]
set_option maxHeartbeats 800000 in
theorem more_said : MoreSaid := by
 intro w c a n cap l hc hn hcap hB
 have hl := hB.1
 have hnc := not_bits c hc
 have hd : 4294967295 - c < 4294967296 := by omega
 have hs : Crc.more c l = 4294967295 - Crc.run (4294967295 - c) l := by unfold Crc.more; rfl
 have HS : Hid _ := hs
 clear hs
 generalize 4294967295 - c = d at *
 have HR0 : Hid (d = Crc.run d (l.take 0)) := by unfold Hid; rw [List.take_zero, Crc.run_nil]
 go_enter Tryz.func145, Tryz.ntmps145
 go_wp2_with fail
 refine (table_u w).mono ?_
 rintro e w1 ⟨H, rfl, hH, b1⟩
 have hz := b1.size
 obtain ⟨ht, hT⟩ := table_laid w1 H hH #[.int .u32 0, .int .u32 0, .int .u32 0, .int .u32 0, .int .u32 0, .int .u32 0, .int .u32 0, .int .u32 0, .int .u32 0, .int .u32 0, .int .u32 0, .int .u32 0, .int .u32 0, .int .u32 0, .int .u32 0, .int .u32 0] rfl
 have hi : (Tryz.prog.info? 219).map (·.size) = some H.toArray.size := by
  rw [List.size_toArray, hH.1]; exact info_halves
 have ho := all_oneCell_toArray hH.2.1
 have b2 := below_setCells hz H 0 (b1.alloc hz (.cells #[.int .u32 0, .int .u32 0, .int .u32 0, .int .u32 0, .int .u32 0, .int .u32 0, .int .u32 0, .int .u32 0, .int .u32 0, .int .u32 0, .int .u32 0, .int .u32 0, .int .u32 0, .int .u32 0, .int .u32 0, .int .u32 0] 219))
 have hB2 := hB.below b2
 clear hH b1 hB
 go_wp2_with (refine wpList_store_mid rfl 219 _ _ rfl _ 0 H.toArray rfl rfl ht hi ho ?_)
 clear ht hi ho
 generalize (w1.alloc (.cells #[.int .u32 0, .int .u32 0, .int .u32 0, .int .u32 0, .int .u32 0, .int .u32 0, .int .u32 0, .int .u32 0, .int .u32 0, .int .u32 0, .int .u32 0, .int .u32 0, .int .u32 0, .int .u32 0, .int .u32 0, .int .u32 0] 219)).setCells w1.heap.size 0 H = w2 at *
 clear hz
 generalize w1.heap.size = B at *
 go_loop [6, 14] (fun v i => ∃ (k r : Nat), k ≤ n ∧ i = .int .i64 k ∧ v = .int .u32 r ∧ r < 4294967296 ∧ Hid (r = Crc.run d (l.take k)))
  (fun _ i => n - (intOf i).toNat)
 case atStart => exact ⟨0, d, Nat.zero_le _, rfl, rfl, hd, HR0⟩
 case round =>
  obtain ⟨k, r, hk, rfl, rfl, hr, HR⟩ := hrel
  clear HR0 hnc
  by_cases hlt : k < n
  · obtain ⟨b, off, rfl, hcell⟩ := hB2.place (by omega)
    have d1 := hcell k (by omega)
    have hx : (l[k]'(by omega)).toNat < 256 := by have := (l[k]'(by omega)).toNat_lt; simpa using this
    have hnext : Crc.run d (l.take (k + 1)) = Crc.steps 4 (Crc.steps 4 (Crc.run d (l.take k) ^^^ (l[k]'(by omega)).toNat)) := by
     rw [List.take_succ_eq_append_getElem (by omega), Crc.run_append, Crc.run_cons, Crc.run_nil, ← Crc.steps_add]
    rw [← HR.out] at hnext
    generalize (l[k]'(by omega)).toNat = x at *
    have HN : Hid _ := hnext
    clear hnext hcell hB2
    have hw8 : IntKind.u32.wrap (x : Int) = (x : Int) := by simp [IntKind.wrap, IntKind.bits, IntKind.signed]; omega
    have hxor := u32_xor_nat r x hr (by omega)
    have hlt0 := Crc.xor_lt hr (show x < 4294967296 by omega)
    generalize r ^^^ x = y0 at *
    have hc1 := Hid.out hT (y0 % 16) (Nat.mod_lt _ (by decide))
    have hs1 := half_step y0 hlt0
    have hlt1 := Crc.steps_lt 4 hlt0
    generalize Crc.steps 4 y0 = y1 at *
    have hc2 := Hid.out hT (y1 % 16) (Nat.mod_lt _ (by decide))
    have hs2 := half_step y1 hlt1
    have hlt2 := Crc.steps_lt 4 hlt1
    generalize Crc.steps 4 y1 = y2 at *
    generalize Crc.steps 4 (y0 % 16) = z0 at *
    generalize Crc.steps 4 (y1 % 16) = z1 at *
    clear hT
    go_wp2
    go_round
    case rel => exact ⟨k + 1, y2, by omega, by go_num, rfl, hlt2, by unfold Hid; rw [HN.out]⟩
    case measure => simp [intOf]; omega
  · have e : k = n := by omega
    subst e
    have h1 := HR.out
    rw [List.take_of_length_le (by omega)] at h1
    have hnot := not_bits r hr
    rw [h1, ← HS.out, ← h1] at hnot
    have HC : Hid _ := h1
    clear h1 HR HS hB2 hT
    go_wp2
    go_ret
    exact ⟨rfl, b2⟩
set_option maxHeartbeats 400000 in
theorem sum_said : SumSaid := by
 intro w a n cap l hn hcap hB
 have hs : Crc.sum l = Crc.more 0 l := by unfold Crc.more Crc.sum; rfl
 rw [hs]
 go_enter Tryz.func137, Tryz.ntmps137
 go_wp2_with fail
 refine (more_said w 0 a n cap l (by decide) hn hcap hB).mono ?_
 rintro e w1 ⟨rfl, b1⟩
 go_wp2
 go_ret
 exact ⟨rfl, b1⟩
theorem le4_octs (c : Nat) : Crc.le4 c = Oct.octs c 4 := by
 unfold Crc.le4
 simp only [Oct.octs]
 simp [Nat.div_div_eq_div_mul]
set_option maxHeartbeats 800000 in
theorem seal_said : SealSaid := by
 intro w a n cap l hn hcap hnil hB
 have hs := Crc.sum_lt l
 have hp : Oct.putE (Crc.sum l) 4 = 0 ∧ Oct.putL (Crc.sum l) 4 = Crc.le4 (Crc.sum l) := by
  have h1 := Oct.putE_ok (n := Crc.sum l) (s := 4) (by decide) (by decide) (by simpa using hs)
  have h2 := Oct.putL_ok (n := Crc.sum l) (s := 4) (by decide) (by decide) (by simpa using hs)
  exact ⟨h1, by rw [le4_octs]; exact h2⟩
 have HP : Hid _ := hp
 have HL : Hid (Crc.sealed l = l ++ Crc.le4 (Crc.sum l)) := by unfold Hid Crc.sealed; rfl
 clear hp
 obtain ⟨i0, hi, hz0, hz1, hz2⟩ := info_parts info_u8
 go_enter Tryz.func130, Tryz.ntmps130
 go_wp2_with fail
 refine (sum_said w a n cap l (by omega) hcap hB).mono ?_
 rintro e w1 ⟨rfl, b1⟩
 generalize Crc.sum l = c at *
 have hw : IntKind.u64.wrap (c : Int) = (c : Int) := by simp [IntKind.wrap, IntKind.bits, IntKind.signed]; omega
 go_wp2_with fail
 refine (put_u c _ 4 rfl w1).mono ?_
 rintro e w2 ⟨b, ln, d, rfl, ho2, b2⟩
 rw [HP.out.1]
 rw [HP.out.2] at ho2
 obtain ⟨hB2, hd2, hn2⟩ := owns_isB ho2
 have hl4 : ln = 4 := by have := hB2.1; simp [Crc.le4] at this; omega
 subst hl4
 have c2 := on b1 b2
 have hA2 := hB.below c2
 have HN2 : Hid _ := hn2
 have HN : Hid _ := hnil
 have hz := c2.size
 clear hw b1 b2 ho2 hn2 hnil hB HP hs
 go_wp2_with (at_make; refine wpList_make_own _ rfl _ _ 53 rfl w2.heap.size 5 i0 (.int .u8 0) 1 Tryz.underlying53 hi hz0 hz1 _ _ _ (n + 4) rfl rfl (by omega) ?b2 ?b3 (Nat.le_refl _) ?_)
 case b2 => rw [hz2]; omega
 case b3 => unfold maxLen; omega
 intro w3 ho3 hg3
 have b3 : Below w2.heap.size w2 w3 := (Below.refl _ _).grown hg3 (Nat.le_refl _) (fun k h => by cases h)
 have hz3 := b3.size
 have hA3 := hA2.below b3
 go_wp2_with (at_builtin; refine append_two rfl _ _ rfl w2.heap.size _ 0 [] rfl ho3 _ n cap l rfl hA3 HN.out (by omega) hz3 ?_)
 intro b4 d4 w4 ho4 hg4
 have c4 : Below w2.heap.size w2 w4 := b3.grown hg4 hz3 (fun k h => own_base ho3 k h)
 clear hg4 hg3 ho3 b3 hA3 hA2 hz3
 have hB4 := hB2.below c4
 have hz4 := c4.size
 go_wp2_with (at_builtin; refine append_two rfl _ _ rfl w2.heap.size _ n l rfl ho4 _ 4 d _ rfl hB4 HN2.out (by omega) hz4 ?_)
 intro b5 d5 w5 ho5 hg5
 rw [← HL.out] at ho5
 have c5 : Below w2.heap.size w2 w5 := c4.grown hg5 hz4 (fun k h => own_base ho4 k h)
 go_wp2
 go_ret
 exact ⟨b5, d5, rfl, owns_mono ho5 hz, c2.trans (c5.mono hz)⟩
theorem num_le4 (c : Nat) (hc : c < 4294967296) : Oct.num (Crc.le4 c) = c := by
 rw [le4_octs]; exact Oct.num_octs c 4 (by simpa using hc)
theorem le4_num (l : List UInt8) (h : l.length = 4) : Crc.le4 (Oct.num l) = l := by
 rw [le4_octs, ← h]; exact Oct.octs_num l
theorem cut_tail (l : List UInt8) (h : 4 ≤ l.length) : l.take (l.length - 4) ++ Oct.cut l (l.length - 4) 4 = l := by
 have e : Oct.cut l (l.length - 4) 4 = l.drop (l.length - 4) := by
  unfold Oct.cut
  exact List.take_of_length_le (by rw [List.length_drop]; omega)
 rw [e, List.take_append_drop]
theorem sum_stands (l : List UInt8) (h : 4 ≤ l.length) : (Oct.num (Oct.cut l (l.length - 4) 4) = Crc.sum (l.take (l.length - 4))) ↔ Crc.sealed (l.take (l.length - 4)) = l := by
 have e := cut_tail l h
 have hlen : (Oct.cut l (l.length - 4) 4).length = 4 := Oct.cut_length l _ 4 (by omega)
 constructor
 · intro hs
   unfold Crc.sealed
   rw [← hs, le4_num _ hlen, e]
 · intro hs
   unfold Crc.sealed at hs
   have h1 : Crc.le4 (Crc.sum (l.take (l.length - 4))) = Oct.cut l (l.length - 4) 4 := List.append_cancel_left (hs.trans e.symm)
   rw [← h1, num_le4 _ (Crc.sum_lt _)]
theorem open_short (w : World) (a : Option Addr) (n cap : Nat) (h : n < 4) :
 Calls Tryz.prog 122 #[.slice a n cap] w fun e w' => e = .returned (.tuple #[.slice none 0 0, .int .i64 8]) ∧ w = w' := by
 go_enter Tryz.func122, Tryz.ntmps122
 go_wp2
 go_ret2
 exact ⟨rfl, rfl⟩
set_option maxHeartbeats 800000 in
theorem open_in (w : World) (a : Option Addr) (n cap : Nat) (l : List UInt8) (h4 : 4 ≤ n) (hn : n ≤ 140737488351236) (hcap : n ≤ cap) (hB : IsB w a n l) :
 Calls Tryz.prog 122 #[.slice a n cap] w fun e w' => ∃ b len d, e = .returned (.tuple #[.slice b len d, .int .i64 (Crc.openE l)]) ∧
  w'.ownsRow w.heap.size 5 1 (.slice b len d) len (cellsOf (Crc.openL l)) ∧ Below w.heap.size w w' := by
 have hl : l.length = n := hB.1
 have hcs := Crc.openE_cases l
 have hst := sum_stands l (by omega)
 rw [hl] at hcs hst
 have HCS : Hid _ := hcs
 have HST : Hid _ := hst
 have hlt : Oct.num (Oct.cut l (n - 4) 4) < 18446744073709551616 := by
  have := Oct.num_cut_lt l (n - 4) 4 (by omega)
  omega
 have hsl := Crc.sum_lt (l.take (n - 4))
 obtain ⟨b, off, rfl, -⟩ := hB.place (by omega)
 have hH := hB.head (n - 4) (by omega) (by omega)
 have hneg : ¬ ((n : Int) - 4 < 0) := by omega
 clear hcs hst
 go_enter Tryz.func122, Tryz.ntmps122
 go_wp2_with fail
 refine (get_ok w _ n cap l (n - 4) 4 _ _ (by omega) rfl (by omega) (by omega) (by unfold maxLen; omega) hB (by omega)).mono ?_
 rintro e w1 ⟨rfl, b1⟩
 have hH1 := hH.below b1
 generalize Oct.num (Oct.cut l (n - 4) 4) = s at *
 clear hH hB
 go_wp2_with fail
 refine (sum_said w1 _ (n - 4) cap _ (by omega) (by omega) hH1).mono ?_
 rintro e w2 ⟨rfl, b2⟩
 have c2 := on b1 b2
 have hH2 := hH1.below b2
 have hz2 := c2.size
 clear b1 b2 hH1
 generalize Crc.sum (l.take (n - 4)) = c at *
 have hw : IntKind.u64.wrap (c : Int) = (c : Int) := by simp [IntKind.wrap, IntKind.bits, IntKind.signed]; omega
 rcases HCS.out with ⟨g, _⟩ | ⟨_, g, e1, e2⟩ | ⟨_, g, e1, e2⟩
 · omega
 · have e := HST.out.2 g
   subst e
   have E1 : Hid _ := e1
   have E2 : Hid _ := e2
   clear e1 e2 g HST HCS
   have ho0 : (w2.alloc (.cells #[] 5)).ownsRow w2.heap.size 5 1 (.slice (some ⟨w2.heap.size, 0, none⟩) 0 0) 0 (cellsOf []) :=
    World.ownsRow_lit (base := w2.heap.size) (e := 5) (size := 1) w2 #[] 0 (Nat.le_refl _) (by decide) rfl
   have b3 : Below w2.heap.size w2 (w2.alloc (.cells #[] 5)) := (Below.refl _ _).alloc (Nat.le_refl _) _
   have hH3 := hH2.below b3
   have hz3 := b3.size
   clear hH2
   go_wp2_with (at_builtin; refine append_two rfl _ _ rfl w2.heap.size _ 0 [] rfl ho0 _ (n - 4) cap _ rfl hH3 (fun e => by cases e) (by omega) hz3 ?_)
   intro b4 d4 w4 ho4 hg4
   have c4 : Below w2.heap.size w2 w4 := b3.grown hg4 hz3 (fun k h => own_base ho0 k h)
   go_wp2
   go_ret2
   refine ⟨b4, n - 4, d4, by rw [E1.out]; rfl, ?_, c2.trans (c4.mono hz2)⟩
   rw [E2.out]
   exact owns_mono ho4 hz2
 · have hne : ((s : Int) != (c : Int)) = true := bne_iff_ne.2 (fun h => g (HST.out.1 (by omega)))
   have E1 : Hid _ := e1
   have E2 : Hid _ := e2
   clear e1 e2 g HST HCS
   go_wp2
   go_ret2
   exact ⟨none, 0, 0, by rw [E1.out]; rfl, by rw [E2.out]; exact own_nil _ _, c2⟩
theorem open_said : OpenSaid := by
 intro w a n cap l hn hcap hnil hB
 by_cases h : n < 4
 · have hl : l.length = n := hB.1
   rcases Crc.openE_cases l with ⟨_, e1, e2⟩ | ⟨g, _⟩ | ⟨g, _⟩
   · rw [e1, e2]
     refine (open_short w a n cap h).mono ?_
     rintro e w' ⟨rfl, rfl⟩
     exact ⟨none, 0, 0, rfl, own_nil _ _, Below.refl _ _⟩
   · omega
   · omega
 · exact open_in w a n cap l (by omega) hn hcap hB
end Go.Proofs.YtkbmadoaomoojaaGreat
