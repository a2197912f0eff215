/-
  The contract of leftOfHalves: what each half of an octet leaves in the register. Conditions: none.
-/
import Derived.Test.YtbglgplfjhiafaaBytes
import Derived.Test.YtbglgplfjhiafaaCBits
import Derived.Deep.MidRow
import Derived.Deep.WholeRow
import Derived.Laws.ResultCell
namespace Go.Proofs.Ytbglgplfjhiafaa
open Go.RowKit
set_option linter.unusedVariables false

/-- The table when k halves have been worked out. -/
def halfs (k : Nat) : List Value := (List.range 16).map fun i => .int .u32 ((if i < k then Crc.steps 4 i else 0 : Nat) : Int)

theorem halfs_length (k : Nat) : (halfs k).length = 16 := by simp [halfs]

theorem halfs_get (k i : Nat) (hi : i < 16) : (halfs k)[i]? = some (.int .u32 ((if i < k then Crc.steps 4 i else 0 : Nat) : Int)) := by
  simp [halfs, List.getElem?_range hi]

theorem halfs_set (k : Nat) (hk : k < 16) : (halfs k).set k (.int .u32 (Crc.steps 4 k : Nat)) = halfs (k + 1) := by
  apply List.ext_getElem?
  intro i
  rw [List.getElem?_set]
  by_cases hi : i < 16
  · rw [halfs_get _ i hi, halfs_get _ i hi, halfs_length]
    by_cases e : k = i
    · subst e; simp [hk]
    · simp only [if_neg e]
      by_cases h : i < k
      · simp [h, show i < k + 1 from by omega]
      · simp [h, show ¬ i < k + 1 from by omega]
  · rw [List.getElem?_eq_none (l := halfs k) (by rw [halfs_length]; omega), List.getElem?_eq_none (l := halfs (k + 1)) (by rw [halfs_length]; omega), halfs_length]
    by_cases e : k = i
    · omega
    · simp [e]

theorem info_halves : (Try.prog.info? 87).map (fun i => i.size) = some 16 := by kernel_rfl

theorem range_zero (w : World) (o : Obj) : ((w.alloc o).alloc (.cells (halfs 0).toArray 87)).rangeAt (w.heap.size + 1) 0 (halfs 0) := by
  intro j v hv
  rw [Nat.zero_add]
  have := cell_of_row ((w.alloc o).alloc (.cells (halfs 0).toArray 87)) (w.heap.size + 1) j (halfs 0).toArray 87 (0, 0) (by simpa only [World.size_alloc] using heap_alloc_last (w.alloc o) (.cells (halfs 0).toArray 87))
  rw [this]
  simpa using hv

theorem there_new (w : World) (c : Array Value) (t : TypeId) : (w.alloc (.cells c t)).there w.heap.size 0 c.size := by
  intro j hj
  have := cell_of_row (w.alloc (.cells c t)) w.heap.size j c t (0, 0) (heap_alloc_last w _)
  rw [Nat.zero_add, this]
  refine ⟨by simp [hj], ?_⟩
  simp

theorem range_set {w : World} {b k : Nat} (hk : k < 16) (h : w.rangeAt b 0 (halfs k)) : (w.setCell ⟨b, k, none⟩ (.int .u32 (Crc.steps 4 k : Nat))).rangeAt b 0 (halfs (k + 1)) := by
  intro j v hv
  rw [Nat.zero_add]
  have hj : j < 16 := by have := (List.getElem?_eq_some_iff.1 hv).1; rw [halfs_length] at this; exact this
  have hc : ∀ i, i < 16 → ∃ u, (halfs k)[i]? = some u ∧ w.cell? ⟨b, i, none⟩ = some u := by
    intro i hi
    have e := halfs_get k i hi
    exact ⟨_, e, by have := h i _ e; rwa [Nat.zero_add] at this⟩
  rw [← halfs_set k hk, List.getElem?_set] at hv
  by_cases e : k = j
  · subst e
    obtain ⟨u, _, hu⟩ := hc k hk
    rw [World.cell?_setCell_same _ _ _ hu]
    simpa [halfs_length, hk] using hv
  · rw [if_neg e] at hv
    obtain ⟨u, e1, hu⟩ := hc j hj
    rw [World.cell?_setCell_other _ _ _ _ (fun h => e (Addr.mk.inj h).2.1), hu, ← e1, hv]

theorem there_set {w : World} {b n : Nat} (h : w.there b 0 n) (x : Addr) (v : Value) : (w.setCell x v).there b 0 n := by
  intro j hj
  obtain ⟨h1, h2⟩ := h j hj
  refine ⟨?_, by rw [World.frozen?_setCell]; exact h2⟩
  obtain ⟨u, hu⟩ := Option.isSome_iff_exists.1 h1
  by_cases e : x = ⟨b, 0 + j, none⟩
  · subst e; rw [World.cell?_setCell_same _ _ _ hu]; rfl
  · rw [World.cell?_setCell_other _ _ _ _ e, hu]; rfl

theorem load_cells {w : World} (b : Nat) (cs : List Value) (n : Nat) (hn : cs.length = n) (h : w.rangeAt b 0 cs) : (loadCellsFrom ⟨b, 0, none⟩ 0 n #[]).run Try.prog w = .ok cs.toArray w := by
  subst hn
  have := run_loadCells_list (P := Try.prog) w ⟨b, 0, none⟩ cs (fun j v hv => by rw [Addr.add_mid]; exact h j v hv)
  simpa [loadCells] using this

theorem store_cells {w : World} (b : Nat) (cs : List Value) (n : Nat) (hn : cs.length = n) (h : w.there b 0 n) (h1 : ∀ v ∈ cs, v.oneCell' = true) : (storeCells ⟨b, 0, none⟩ cs 0).run Try.prog w = .ok () (w.setCells b 0 cs) := by
  subst hn
  have := run_storeCells_cells (P := Try.prog) b 0 cs 0 w (fun j hj => by simpa using (h j hj).1) (fun j hj => by simpa using (h j hj).2) h1
  simpa using this

theorem halfs_one (k : Nat) : ∀ v ∈ halfs k, v.oneCell' = true := by
  intro v hv
  simp only [halfs, List.mem_map] at hv
  obtain ⟨i, _, rfl⟩ := hv
  rfl

theorem below_setCells {B b : Nat} {a : World} (hb : B ≤ b) : ∀ (vs : List Value) (o : Nat) {w : World}, Below B a w → Below B a (w.setCells b o vs)
  | [], _, _, h => h
  | v :: r, o, w, h => below_setCells hb r (o + 1) (h.setCell (p := ⟨b, o, none⟩) hb v)

/-- A result that lies in a variable of its own, read whole. -/
theorem results_range {fn : Func} {p : Tmp} {ty : TypeId} {tmps : Array Value} {w : World} {b : Nat} {cs : List Value} {d : TypeDesc} (h : fn.results = #[.cell p ty]) (hp : tmps.getD p undef = .pointer (some ⟨b, 0, none⟩))
    (hc : w.rangeAt b 0 cs) (hu : Try.prog.underlying ty = some d) (hd : d.isRow = true) (hi : (Try.prog.info? ty).map (·.size) = some cs.length) :
    (results fn tmps).run Try.prog w = .ok (.agg cs.toArray) w := by
  have hp' : tmps[p]?.getD undef = .pointer (some ⟨b, 0, none⟩) := by simpa using hp
  simp [results, h, hp', asAddr, run_loadVar_mid w b 0 ty cs d hc hu hd hi]

/-- The relation of the table's rounds. -/
def Filled (w wr : World) (k : Nat) : Prop := Hid (wr.rangeAt (w.heap.size + 1) 0 (halfs k) ∧ wr.there w.heap.size 0 16 ∧ wr.there (w.heap.size + 1) 0 16 ∧ Below w.heap.size w wr)

theorem fill {w wr : World} {k : Nat} (hk : k < 16) (h : wr.rangeAt (w.heap.size + 1) 0 (halfs k) ∧ wr.there w.heap.size 0 16 ∧ wr.there (w.heap.size + 1) 0 16 ∧ Below w.heap.size w wr) :
    Filled w (wr.setCell ⟨w.heap.size + 1, k, none⟩ (.int .u32 (Crc.steps 4 k : Nat))) (k + 1) := by
  obtain ⟨h1, h2, h3, h4⟩ := h
  exact ⟨range_set hk h1, there_set h2 _ _, there_set h3 _ _, h4.setCell (p := ⟨w.heap.size + 1, k, none⟩) (Nat.le_succ _) _⟩

theorem steps_succ (j c : Nat) : Crc.steps (j + 1) c = Crc.step (Crc.steps j c) := by
  rw [Crc.steps_add]; rfl

set_option maxHeartbeats 1600000 in
theorem halves_u (w : World) : Calls Try.prog 55 #[] w fun e w' => e = .returned (.agg (halfs 16).toArray) ∧ Below w.heap.size w w' := by
  have hr0 := range_zero w (.cells (halfs 0).toArray 87)
  have ht0 : ((w.alloc (.cells (halfs 0).toArray 87)).alloc (.cells (halfs 0).toArray 87)).there w.heap.size 0 16 := World.there_alloc (there_new w (halfs 0).toArray 87) _
  have ht1 : ((w.alloc (.cells (halfs 0).toArray 87)).alloc (.cells (halfs 0).toArray 87)).there (w.heap.size + 1) 0 16 := by
    have := there_new (w.alloc (.cells (halfs 0).toArray 87)) (halfs 0).toArray 87
    simpa [halfs_length] using this
  have hb0 : Below w.heap.size w ((w.alloc (.cells (halfs 0).toArray 87)).alloc (.cells (halfs 0).toArray 87)) := ((Below.refl _ _).alloc (Nat.le_refl _) _).alloc (by simp) _
  have H0 : Hid (_ ∧ _ ∧ _ ∧ _) := ⟨hr0, ht0, ht1, hb0⟩
  clear hr0 ht0 ht1 hb0
  go_enter Try.func55, Try.ntmps55
  go_wp2
  go_loopw [5] (fun i wr => ∃ k : Nat, k ≤ 16 ∧ i = .int .i64 k ∧ Filled w wr k)
    (fun i _ => 16 - (intOf i).toNat)
  case atStart => exact ⟨0, Nat.zero_le _, rfl, H0⟩
  case round =>
    obtain ⟨k, hk, rfl, HK⟩ := hrel
    clear H0
    by_cases hlt : k < 16
    · have hw : IntKind.u32.wrap (k : Int) = (k : Int) := by simp [IntKind.wrap, IntKind.bits, IntKind.signed]; omega
      go_wp2
      clear hw
      go_loop [3, 10] (fun v i => ∃ (j y : Nat), j ≤ 4 ∧ i = .int .i64 j ∧ v = .int .u32 y ∧ y < 4294967296 ∧ Hid (y = Crc.steps j k))
        (fun _ i => 4 - (intOf i).toNat)
      case atStart => exact ⟨0, k, Nat.zero_le _, rfl, rfl, by omega, rfl⟩
      case round =>
        obtain ⟨j, y, hj, rfl, rfl, hy, HY⟩ := hrel
        by_cases hj8 : j < 4
        · have hstep : Crc.steps (j + 1) k = Crc.step y := by rw [steps_succ, ← HY.out]
          have hylt := Crc.step_lt hy
          have HST : Hid _ := hstep
          clear hstep
          by_cases ho : y % 2 = 1
          · have hob := odd_bit y hy ho
            have hxy : bits BinOp.xor IntKind.u32 ((y : Int) / 2) 2197175160 = ((Crc.step y : Nat) : Int) := by
              have h1 := u32_xor_nat (y / 2) 2197175160 (by omega) (by decide)
              have h2 : Crc.step y = (y / 2) ^^^ 2197175160 := by unfold Crc.step; rw [if_pos ho]
              rw [h2]
              simpa using h1
            have HXY : Hid _ := hxy
            clear hxy ho
            go_wp2
            go_round
            case rel => exact ⟨j + 1, Crc.step y, by omega, by go_num, by rw [HXY.out], hylt, HST.out.symm⟩
            case measure => simp [intOf]; omega
          · have hob := even_bit y hy ho
            have hst : Crc.step y = y / 2 := by unfold Crc.step; rw [if_neg ho]
            have HSY : Hid _ := hst
            clear hst ho
            go_wp2
            go_round
            case rel => exact ⟨j + 1, y / 2, by omega, by go_num, by go_num, by omega, by unfold Hid; rw [HST.out, HSY.out]⟩
            case measure => simp [intOf]; omega
        · have e : j = 4 := by omega
          subst e
          obtain ⟨hr, ht0, ht1, hb⟩ := Hid.out HK
          obtain ⟨hs1, hf⟩ := ht1 k hlt
          rw [Nat.zero_add] at hs1 hf
          obtain ⟨u, hu⟩ := Option.isSome_iff_exists.1 hs1
          have H1 := fill hlt (Hid.out HK)
          rw [← HY.out] at H1
          clear hr ht0 ht1 hb hs1 HK
          go_wp2
          go_roundw
          case rel => exact ⟨k + 1, by omega, by go_num, H1⟩
          case measure => simp [intOf]; omega
    · have e : k = 16 := by omega
      subst e
      obtain ⟨hr, ht0, ht1, hb⟩ := Hid.out HK
      have HB : Hid _ := hb
      have hl := halfs_length 16
      have ho := halfs_one 16
      clear HK ht1 hb
      generalize hH : halfs 16 = H at *
      have HH : Hid _ := hH
      clear hH
      go_wp2_with (first
        | refine wpList_load_mid rfl 87 _ rfl _ 0 rfl H _ hr Try.underlying87 rfl (by rw [hl]; exact info_halves) ?_
        | refine wpList_store_mid rfl 87 _ _ rfl _ 0 H.toArray rfl rfl (by simpa [hl] using ht0) (by simpa [hl] using info_halves) (all_oneCell_toArray ho) ?_)
      have hgot := World.rangeAt_setCells_same wr w.heap.size 0 H (by rw [hl]; exact ht0)
      rw [HH.out]
      refine bodyPost_ret (v := .agg H.toArray) ?_ rfl ⟨rfl, below_setCells (Nat.le_refl _) H 0 HB.out⟩
      exact results_range rfl rfl hgot Try.underlying87 rfl (by rw [hl]; exact info_halves)

/-- A table of what each half leaves. -/
def IsTable (H : List Value) : Prop := H.length = 16 ∧ (∀ v ∈ H, v.oneCell' = true) ∧ ∀ i, i < 16 → H[i]? = some (.int .u32 (Crc.steps 4 i : Nat))

theorem isTable : IsTable (halfs 16) := ⟨halfs_length 16, halfs_one 16, fun i hi => by rw [halfs_get 16 i hi, if_pos hi]⟩

theorem table_u (w : World) : Calls Try.prog 55 #[] w fun e w' => ∃ H, e = .returned (.agg H.toArray) ∧ IsTable H ∧ Below w.heap.size w w' := by
  refine (halves_u w).mono ?_
  rintro e w' ⟨rfl, hb⟩
  exact ⟨halfs 16, rfl, isTable, hb⟩

/-- Where the table lies: what each of its places holds. -/
def TableAt (w : World) (B : Nat) : Prop := Hid (∀ i, i < 16 → w.cell? ⟨B, i, none⟩ = some (.int .u32 (Crc.steps 4 i : Nat)))

/-- A table laid into a new variable. -/
theorem table_laid (w : World) (H : List Value) (hH : IsTable H) (C : Array Value) (hC : C.size = 16) :
    (w.alloc (.cells C 87)).there w.heap.size 0 H.toArray.size ∧ TableAt ((w.alloc (.cells C 87)).setCells w.heap.size 0 H) w.heap.size := by
  obtain ⟨h1, _, h3⟩ := hH
  have ht := there_new w C 87
  rw [hC] at ht
  have he : H.toArray.size = 16 := by rw [List.size_toArray, h1]
  refine ⟨by rw [he]; exact ht, fun i hi => ?_⟩
  have h := World.rangeAt_setCells_same (w.alloc (.cells C 87)) w.heap.size 0 H (by rw [h1]; exact ht)
  have := h i _ (h3 i hi)
  rw [Nat.zero_add] at this
  exact this

end Go.Proofs.Ytbglgplfjhiafaa
