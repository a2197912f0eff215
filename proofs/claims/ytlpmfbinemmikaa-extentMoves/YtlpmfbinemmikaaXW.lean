/-
  The landed extent: what a map has of some sectors, laid by a function that is handed in. Conditions: those that each contract names.
-/
import Derived.Test.YtlpmfbinemmikaaXS
namespace Go.Proofs.Ytlpmfbinemmikaa
open Go.RowKit Go.Lib
set_option linter.unusedVariables false

theorem rExts_low {w w1 : World} {P : Nat → Prop} {a : Option Addr} {n c : Nat} {l : List Ext} (h : rExts.rd w P [.slice a n c] l) (b : Below w.heap.size w w1) : rExts.rd w1 (fun b => b < w.heap.size) [.slice a n c] l := by
  obtain ⟨a', n', c', e, h1, h2, h3, h4, h5⟩ := Rep.below h b
  refine ⟨a', n', c', e, h1, h2, h3, h4, fun x hx j hj => ?_⟩
  obtain ⟨hp, cj, g1, g2⟩ := h5 x hx j hj
  obtain ⟨a2, n2, c2, e2, -, -, -, -, k5⟩ := h
  simp only [List.cons.injEq, Value.slice.injEq, and_true] at e e2
  exact ⟨Elems.block (by decide) (k5 x (by rw [← hx, ← e.1, e2.1])) j hj, cj, rExt_rd.2 (rExt_rd.1 g1), g2⟩

theorem Ex.within_next {l : List Ext} {j : Nat} (hj : j < l.length) (a b : Int) : Ex.within (l.take (j + 1)) a b = Ex.within (l.take j) a b ++ Ex.wOne a b l[j] := Ex.flat_next l j hj

theorem Ex.within_split (l : List Ext) (j : Nat) (a b : Int) : Ex.within l a b = Ex.within (l.take j) a b ++ Ex.within (l.drop j) a b := by
  conv => lhs; rw [← List.take_append_drop j l]
  unfold Ex.within
  rw [List.flatMap_append]

theorem Ex.within_all {l : List Ext} {j : Nat} (hf : Ex.From 0 l) (hj : j < l.length) {a b : Int} (h : b ≤ l[j].1) : Ex.within (l.take j) a b = Ex.within l a b := by
  have e : Ex.within (l.drop j) a b = [] := by
    refine Ex.within_none (c := l[j].1) ?_ h
    have h1 : Ex.From 0 (l.take j ++ l.drop j) := by rw [List.take_append_drop]; exact hf
    have h2 := (Ex.From_append.1 h1).2
    rw [List.drop_eq_getElem_cons hj] at h2 ⊢
    exact ⟨Int.le_refl _, h2.2.1, h2.2.2.1, h2.2.2.2⟩
  rw [Ex.within_split l j, e, List.append_nil]

theorem Ex.within_start {l : List Ext} {k : Nat} {a b : Int} (h : ∀ t (ht : t < l.length), t < k → l[t].1 + l[t].2.2 ≤ a) : Ex.within (l.take k) a b = [] := by
  refine List.flatMap_eq_nil_iff.2 (fun x hx => ?_)
  obtain ⟨i, hi, rfl⟩ := List.mem_take_iff_getElem.1 hx
  exact Ex.wOne_none (.inl (h i (by omega) (by omega)))

theorem Ex.ends_rise : ∀ {l : List Ext} {c : Int}, Ex.From c l → ∀ (a b : Nat) (hb : b < l.length) (hab : a ≤ b), (l[a]'(by omega)).1 + (l[a]'(by omega)).2.2 ≤ l[b].1 + l[b].2.2
  | x :: l, c, ⟨f1, f2, f3, f4⟩, 0, 0, _, _ => Int.le_refl _
  | x :: l, c, ⟨f1, f2, f3, f4⟩, 0, b + 1, hb, _ => by
    have hb' : b < l.length := by simpa using hb
    obtain ⟨g1, g2, g3, g4⟩ := Ex.get_of_mem f4 (List.getElem_mem hb')
    show x.1 + x.2.2 ≤ l[b].1 + l[b].2.2
    omega
  | x :: l, c, ⟨f1, f2, f3, f4⟩, a + 1, b + 1, hb, hab => Ex.ends_rise f4 a b (by simpa using hb) (by omega)

/-- What the search asks of the place t. -/
def ask (l : List Ext) (v : Int) (t : Nat) : Bool := match l[t]? with
  | some y => decide (v < y.1 + y.2.2)
  | none => true

theorem ask_at {l : List Ext} {v : Int} {t : Nat} (h : t < l.length) : ask l v t = decide (v < l[t].1 + l[t].2.2) := by unfold ask; rw [List.getElem?_eq_getElem h]

set_option maxHeartbeats 4000000 in
theorem layWithin_u {f : Nat} {bs : Array Value} {J : List Ext → (Nat → Prop) → World → Prop} (L : Layer f bs id J) (w : World) (P : Nat → Prop) (a : Option Addr) (n c : Nat) (l : List Ext) (hL : rExts.rd w P [.slice a n c] l) (hO : Ex.Ok l)
    (ps : List Ext) (S : Nat → Prop) (hJ : J ps S w) (hPS : ∀ b, P b → b < w.heap.size → ¬ S b) (v en : Int) (hv0 : 0 ≤ v) (hv1 : v ≤ 65536) (he0 : 0 ≤ en) (he1 : en ≤ 65536) (hB : Ex.Bits (ps ++ Ex.within l v en)) :
    Calls Try.prog 28 #[.slice a n c, .int .i64 v, .int .i64 en, .func (.func f) #[] bs] w fun e w' => e = .returned (.tuple #[]) ∧ ∃ S', J (ps ++ Ex.within l v en) S' w' ∧ Turns S S' w w' := by
  obtain ⟨hl, hnc, hnil, hb⟩ := rList_len hL
  have hn : n ≤ 1024 := by have := hO.1; omega
  have HL : Hid (l.length = n) := hl
  have HR : Hid _ := hL
  have HO : Hid (∀ x ∈ l, Ex.One x) := hO.2.1
  have HF : Hid (Ex.From 0 l) := hO.good.from_
  have HY : Hid _ := L
  have HB : Hid _ := hB
  have HPS : Hid _ := hPS
  have HLow : Hid _ := L.low hJ
  have HJ : Hid (J ps S w) := hJ
  obtain ⟨w1, hw1, V1, b1, z1⟩ := boxedRow w 22 [.slice a n c]
  obtain ⟨w2, hw2, V2, b2, z2⟩ := boxedRow w1 3 [.int .i64 v]
  have B2 : Hid (Below w.heap.size w w2) := on b1 b2
  have h0 : w2.cell? ⟨w.heap.size, 0, none⟩ = some (.slice a n c) := (V1.below b2).cell (j := 0) rfl
  have h1 : w2.cell? ⟨w.heap.size + 1, 0, none⟩ = some (.int .i64 v) := by have := V2.cell (j := 0) rfl; rw [z1] at this; exact this
  have HZ : Hid (w2.heap.size = w.heap.size + 1 + 1) := by unfold Hid; rw [z2, z1]
  have HS : Hid (Calls Try.prog 53 #[.int .i64 n, .func (.func 54) #[] #[.pointer (some ⟨w.heap.size, 0, none⟩), .pointer (some ⟨w.heap.size + 1, 0, none⟩)]] w2 fun e w' => ∃ k : Nat, k ≤ n ∧ e = .returned (.int .i64 k) ∧ (∀ t, t < k → ask l v t = false) ∧ Below w2.heap.size w2 w') := by
    refine search_u _ _ (enters_of Try.func54 (by kernel_rfl) rfl) n (by omega) (ask l v) w2 (fun w3 hb3 i hi => ?_) (fun a b hab hb h => ?_)
    · have hil : i < l.length := by rw [HL.out]; exact hi
      rw [ask_at hil]
      have hz := HZ.out
      unfold Hid at hz
      exact asked_u w3 w.heap.size (w.heap.size + 1) a n c v P l (Rep.below (Rep.below HR.out B2.out) hb3) HO.out (by have := hb3.size; omega) (by have := hb3.size; omega)
        ((hb3.cell (p := ⟨w.heap.size, 0, none⟩) (by show w.heap.size < _; omega)).trans h0) ((hb3.cell (p := ⟨w.heap.size + 1, 0, none⟩) (by show w.heap.size + 1 < _; omega)).trans h1) i hi _ (List.getElem?_eq_getElem hil)
    · have hbl : b < l.length := by rw [HL.out]; exact hb
      rw [ask_at (by omega)] at h
      rw [ask_at hbl]
      have := Ex.ends_rise HF.out a b hbl hab
      have h' := of_decide_eq_true h
      exact decide_eq_true (by omega)
  clear hl hL hO hJ hB hPS L V1 V2 b1 b2 z2 hb
  go_enter Try.func28, Try.ntmps28
  go_wp2_with fail
  refine HS.out.mono ?_
  rintro e w3 ⟨k, hk, rfl, hkf, hb3⟩
  have k0 : w3.cell? ⟨w.heap.size, 0, none⟩ = some (.slice a n c) := (hb3.cell (p := ⟨w.heap.size, 0, none⟩) (by show w.heap.size < _; rw [HZ.out]; omega)).trans h0
  have k1 : w3.cell? ⟨w.heap.size + 1, 0, none⟩ = some (.int .i64 v) := (hb3.cell (p := ⟨w.heap.size + 1, 0, none⟩) (by show w.heap.size + 1 < _; rw [HZ.out]; omega)).trans h1
  have B3 : Hid (Below w.heap.size w w3) := on B2.out hb3
  have HZ3 : Hid (w.heap.size + 1 < w3.heap.size) := by have h := hb3.size; rw [HZ.out] at h; unfold Hid; omega
  have HK : Hid (Ex.within (l.take k) v en = []) := Ex.within_start (fun t ht htk => by
    have h := hkf t htk
    rw [ask_at ht] at h
    have := of_decide_eq_false h
    omega)
  clear hkf hb3 h0 h1 hw1 hw2 z1 HS HZ B2
  by_cases hkn : k < n
  · obtain ⟨g, off, rfl, hPg, hgl, hat⟩ := rExts_at HR.out (by omega)
    have HAT : Hid _ := hat
    have HG : Hid (g < w.heap.size) := hgl
    have HNS : Hid (¬ S g) := HPS.out g hPg hgl
    have HNS1 : Hid (¬ S (w.heap.size + 1)) := fun h => by have := HLow.out _ h; omega
    have hck : ¬ c = k := by omega
    have hsub : (n - k : Nat) ≤ 1024 := by omega
    clear hat hPg hgl hnil
    go_wp2
    clear k0
    go_loopw [19] (fun i wr => ∃ j : Nat, k + j ≤ n ∧ i = .int .i64 j ∧ Hid (∃ S', J (ps ++ Ex.within (l.take (k + j)) v en) S' wr ∧ Turns S S' w wr ∧ Turns S S' w3 wr)) (fun i _ => n - k - (intOf i).toNat)
    case atStart => exact ⟨0, by omega, rfl, S, by rw [Nat.add_zero, HK.out, List.append_nil]; exact HY.out.below HJ.out B3.out, Turns.of B3.out, Turns.of (Below.refl _ _)⟩
    case round =>
      obtain ⟨j, hj, rfl, HI⟩ := hrel
      obtain ⟨S1, hJ1, hT1, hT3⟩ := HI.out
      have HJ1 : Hid (J (ps ++ Ex.within (l.take (k + j)) v en) S1 wr) := hJ1
      have HT1 : Hid (Turns S S1 w wr) := hT1
      have HT3 : Hid (Turns S S1 w3 wr) := hT3
      clear hJ1 hT1 hT3 HI
      by_cases hlt : k + j < n
      · have hkl : k + j < l.length := by rw [HL.out]; exact hlt
        obtain ⟨c0, c1, c2, -⟩ := HAT.out (k + j) hkl
        have e0 : wr.cell? ⟨g, off + k * 3 + j * 3, none⟩ = some (.int .i64 l[k + j].1) := by
          rw [show off + k * 3 + j * 3 = off + (k + j) * 3 by omega]
          exact (HT1.out.cell (p := ⟨g, off + (k + j) * 3, none⟩) HG.out HNS.out).trans c0
        have e1 : wr.cell? ⟨g, off + k * 3 + j * 3 + 1, none⟩ = some (.int .i64 l[k + j].2.1) := by
          rw [show off + k * 3 + j * 3 + 1 = off + (k + j) * 3 + 1 by omega]
          exact (HT1.out.cell (p := ⟨g, off + (k + j) * 3 + 1, none⟩) HG.out HNS.out).trans c1
        have e2 : wr.cell? ⟨g, off + k * 3 + j * 3 + 2, none⟩ = some (.int .i64 l[k + j].2.2) := by
          rw [show off + k * 3 + j * 3 + 2 = off + (k + j) * 3 + 2 by omega]
          exact (HT1.out.cell (p := ⟨g, off + (k + j) * 3 + 2, none⟩) HG.out HNS.out).trans c2
        have ev : wr.cell? ⟨w.heap.size + 1, 0, none⟩ = some (.int .i64 v) := (HT3.out.cell (p := ⟨w.heap.size + 1, 0, none⟩) HZ3.out HNS1.out).trans k1
        have HWZ : Hid (w.heap.size + 1 < wr.heap.size) := Nat.lt_of_lt_of_le HZ3.out HT3.out.size
        have HNx : Hid _ := Ex.within_next hkl v en
        have HSp : Hid _ := Ex.within_split l (k + j + 1) v en
        have ho := HO.out l[k + j] (List.getElem_mem hkl)
        have HEnd : Hid (en ≤ l[k + j].1 → Ex.within (l.take (k + j)) v en = Ex.within l v en) := fun h => Ex.within_all HF.out hkl h
        obtain ⟨X, hX⟩ : ∃ X, X = l[k + j] := ⟨_, rfl⟩
        rw [← hX] at e0 e1 e2 HNx ho HEnd
        have HOX : Hid (Ex.One X) := ho
        clear hX c0 c1 c2
        unfold Ex.One Ex.Fits at ho
        obtain ⟨q1, ⟨q2, q3, q4, q5⟩, q6, q7, q8, q9⟩ := ho
        obtain ⟨w4, hw4, V4, b4, z4⟩ := boxedRow wr 24 [.int .i64 X.1, .int .i64 X.2.1, .int .i64 X.2.2]
        obtain ⟨d0, d1, d2⟩ := V4.three
        have dv : w4.cell? ⟨w.heap.size + 1, 0, none⟩ = some (.int .i64 v) := (b4.cell (p := ⟨w.heap.size + 1, 0, none⟩) HWZ.out).trans ev
        have B4 : Hid (Below wr.heap.size wr w4) := b4
        have HJ4 : Hid (J (ps ++ Ex.within (l.take (k + j)) v en) S1 w4) := HY.out.below HJ1.out b4
        clear V4 b4 z4
        have hjz : (j : Int) < ((n - k : Nat) : Int) := by omega
        by_cases hend : en ≤ X.1
        · have HE : Hid _ := HEnd.out hend
          go_wp2
          refine bodyPost_ret (results_none rfl _ _ _) rfl ?_
          exact ⟨rfl, S1, by rw [← HE.out]; exact HJ4.out, HT1.out.trans (Turns.of B4.out)⟩
        · have HPt : Hid ((Ex.part X (v - X.1) (en - X.1)).map id = Ex.wOne v en X) := by unfold Hid; rw [List.map_id]; rfl
          have HB4 : Hid (Ex.Bits ((ps ++ Ex.within (l.take (k + j)) v en) ++ (Ex.part X (v - X.1) (en - X.1)).map id)) := by
            unfold Hid
            have h := HB.out
            rw [HSp.out, HNx.out] at h
            rw [HPt.out]
            refine Ex.Bits.front (r := Ex.within (l.drop (k + j + 1)) v en) ?_
            simpa [List.append_assoc] using h
          go_wp2_with fail
          refine (layPiece_u HY.out _ _ S1 HJ4.out X HOX.out (v - X.1) (en - X.1) HB4.out).mono ?_
          rintro e w5 ⟨rfl, S2, hj2, ht2⟩
          have HJ5 : Hid (J (ps ++ Ex.within (l.take (k + (j + 1))) v en) S2 w5) := by
            unfold Hid
            rw [HPt.out] at hj2
            rw [← Nat.add_assoc, HNx.out, ← List.append_assoc]
            exact hj2
          have HT5 : Hid (Turns S S2 w w5) := (HT1.out.trans (Turns.of B4.out)).trans ht2
          have HT6 : Hid (Turns S S2 w3 w5) := (HT3.out.trans (Turns.of B4.out)).trans ht2
          clear hj2 ht2
          go_wp2
          go_roundw
          case rel => exact ⟨j + 1, by omega, by go_num, S2, HJ5.out, HT5.out, HT6.out⟩
          case measure => simp [intOf]; omega
      · have hjn : k + j = n := by omega
        have HE : Hid (Ex.within (l.take (k + j)) v en = Ex.within l v en) := by unfold Hid; rw [hjn, List.take_of_length_le (by rw [HL.out]; exact Nat.le_refl _)]
        have hjz : ¬ (j : Int) < ((n - k : Nat) : Int) := by omega
        go_wp2
        go_end0
        exact ⟨rfl, S1, by rw [← HE.out]; exact HJ1.out, HT1.out⟩
  · have hkn2 : k = n := by omega
    have HE : Hid (Ex.within l v en = []) := by unfold Hid; rw [← HK.out, hkn2, List.take_of_length_le (by rw [HL.out]; exact Nat.le_refl _)]
    have hz : n - k = 0 := by omega
    go_wp2
    all_goals
      go_loopw [19] (fun i wr => i = .int .i64 0 ∧ wr = w3) (fun i _ => 0)
      case atStart => exact ⟨rfl, rfl⟩
      case round =>
        obtain ⟨rfl, rfl⟩ := hrel
        go_wp2
        go_end0
        exact ⟨rfl, S, by rw [HE.out, List.append_nil]; exact HY.out.below HJ.out B3.out, Turns.of B3.out⟩

end Go.Proofs.Ytlpmfbinemmikaa
