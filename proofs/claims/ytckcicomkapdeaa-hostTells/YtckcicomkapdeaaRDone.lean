/-
  The contract of the document's own act that is done. Conditions: those that it names.
-/
import Derived.Test.YtckcicomkapdeaaRows
import Derived.Test.YtckcicomkapdeaaRHBase
import Derived.Test.YtckcicomkapdeaaRCopied
import Derived.Test.YtckcicomkapdeaaROwnQ
import Derived.Test.YtckcicomkapdeaaHLaid
import Derived.Test.YtckcicomkapdeaaRLists
namespace Go.Proofs.Ytckcicomkapdeaa
open Go.RowKit
set_option linter.unusedVariables false

def slLen : Value → Nat
  | .slice _ n _ => n
  | _ => 0

theorem rdAll_each {α : Type} {A : Rep α} (h1 : A.size = 1) {w : World} {P : Nat → Prop} : ∀ {l : List α} {xs : List Value}, rdAll A w P xs l → Each A w P xs l
  | [], _, h => by rw [show _ = [] from h]; exact Each.nil _ _ _
  | x :: l, xs, ⟨c, r, e, g1, g2⟩ => by
    have hl := A.len g1
    rw [h1] at hl
    obtain ⟨v, rfl⟩ := List.length_eq_one_iff.1 hl
    subst e
    have ih := rdAll_each h1 g2
    refine ⟨by simp [ih.len], fun j v' x' h3 h4 => ?_⟩
    cases j with
    | zero => simp at h3 h4; subst h3 h4; exact g1
    | succ j => exact ih.rd j v' x' (by simpa using h3) (by simpa using h4)

set_option maxRecDepth 20000 in
set_option maxHeartbeats 4000000 in
theorem refDone_u (w : World) (P : Nat → Prop) (a : Option Addr) (n c : Nat) (L : List (List UInt8)) (hL0 : rSectors.rd w P [.slice a n c] L) (A : Act) (x : Option Addr) (m d : Nat) (hx0 : rBytes.rd w P [.slice x m d] A.2.2) (cp : Int) (hok : Hst.actOk cp A = true) (hcp : cp ≤ 65536) (hn : n ≤ 65536) :
    Calls Try.prog 52 #[.slice a n c, .agg #[.int .i64 A.1, .int .i64 A.2.1, .slice x m d]] w fun e w' => ∃ b k c', e = .returned (.slice b k c') ∧ rSectors.rd w' (fun b => (P b ∧ b < w.heap.size) ∨ w.heap.size ≤ b) [.slice b k c'] (Hst.done L A) ∧ Below w.heap.size w w' := by
  obtain ⟨what, pos, X⟩ := A
  have hac : (a = none → c = 0) ∧ n ≤ c := by
    obtain ⟨a', n', c'', e1, g1, g2, g3, _⟩ := hL0
    simp only [List.cons.injEq, Value.slice.injEq, and_true] at e1
    obtain ⟨rfl, rfl, rfl⟩ := e1
    exact ⟨g3, g2⟩
  obtain ⟨hac, hnc0⟩ := hac
  have HAC : Hid _ := hac
  clear hac
  obtain ⟨hLl, -⟩ := rSectors_len hL0
  have HLL : Hid _ := hLl
  have hL : rSectors.rd w (fun b => P b ∧ b < w.heap.size) [.slice a n c] L := rSectors.weaken hL0 (fun b hb hl => ⟨hb, hl⟩)
  have hx : rBytes.rd w (fun b => P b ∧ b < w.heap.size) [.slice x m d] X := rBytes.weaken hx0 (fun b hb hl => ⟨hb, hl⟩)
  obtain ⟨w0, hw0, p0, p1, p2, b0, z0⟩ := boxed3 w 63 (.int .i64 what) (.int .i64 pos) (.slice x m d)
  have V0 : Hid (Var3 w0 w.heap.size (.int .i64 what) (.int .i64 pos) (.slice x m d)) := by rw [← hw0]; exact var3_new _ _ _ _ _
  have HL0 : Hid _ := Rep.below hL b0
  have HX0 : Hid _ := Rep.below hx b0
  clear hL0 hx0 hL hx hLl
  rcases Hst.act_one_two hok with ⟨h1, h2, h3, h4⟩ | ⟨h1, h2, h3, h4⟩
  · simp only at h1 h2 h3 h4
    subst h1
    obtain ⟨t, rfl⟩ : ∃ t : Nat, pos = t := ⟨pos.toNat, by omega⟩
    have H4 : Hid _ := h4
    clear hok h4
    have hok1 : Hid (n * 24 ≤ 140737488355328 ∧ n ≤ maxLen) := ⟨by omega, by unfold maxLen; omega⟩
    go_enter Try.func52, Try.ntmps52
    go_wp2_with (at_builtin; (refine append_all elem_sectors rfl rfl _ _ rfl _ a n c n c L rfl rfl HL0.out (Nat.le_refl _) HAC.out hok1.out.1 hok1.out.2 ?_; intro b1 d1 w1 ho1 g1; have HO1 : Hid (OwnsQ rBytes 26 w1 w0.heap.size (fun b => (P b ∧ b < w.heap.size) ∧ b < w0.heap.size) (.slice b1 n d1) (L.take n)) := ho1; have bb1 : Below w0.heap.size w0 w1 := (Below.refl _ _).grown g1 (Nat.le_refl _) (fun k h => by cases h); clear ho1 g1; have V1 : Hid _ := V0.out.below bb1; have q0 := V1.out.c0; have q1 := V1.out.c1; have q2 := V1.out.c2; by_cases htn : t < n))
    · rw [List.take_of_length_le (by rw [HLL.out]; exact Nat.le_refl _)] at HO1
      obtain ⟨g, cur, rfl, hg, hnc, HRow, hcl, hrd⟩ := HO1.out.at rfl HLL.out (by omega)
      have HR1 : Hid _ := HRow
      have HD1 : Hid _ := hrd
      have HX1 : Hid (rBytes.rd w1.drew (fun b => P b ∧ b < w.heap.size) [.slice x m d] X) := by have h := Rep.below HX0.out bb1; exact h
      have hzg : g < w1.heap.size := HRow.lt
      have htc : ∃ u, cur[t]? = some u := ⟨_, List.getElem?_eq_getElem (by omega)⟩
      obtain ⟨u, hu⟩ := htc
      have HU : Hid _ := hu
      have hz1 := bb1.size
      have hI : (t : Int) < (n : Int) := by omega
      clear HRow hrd hu HO1
      go_region_law (go_simp; go_at_call 36; refine (copied_r _ _ x m d _ HX1.out).mono ?_; rintro e w5 ⟨b5, d5, rfl, hr5, bd5⟩; have bb5 := same_drew bd5; clear bd5; have V5 : Hid _ := V1.out.below bb5; have y0 := V5.out.c0; have y1 := V5.out.c1; have y2 := V5.out.c2; have R5 : Hid _ := HR1.out.below bb5; have cc := R5.out.cell HU.out; have ff := R5.out.frozen t)
      all_goals go_wp2
      all_goals
        go_ret
        have hdone : Hst.done L (1, (t : Int), X) = L.set t X := by unfold Hst.done; rw [if_pos rfl, if_pos (show (t : Int) < (L.length : Int) from by rw [HLL.out]; omega)]; simp
        refine ⟨_, _, _, rfl, ?_, ((on b0 bb1).trans (bb5.mono (by omega))).setCell (p := ⟨g, t, none⟩) (by show w.heap.size ≤ g; omega) _⟩
        rw [hdone]
        have h1 : rdAll rBytes w5 (fun b => ((P b ∧ b < w.heap.size) ∨ w.heap.size ≤ b) ∧ b ≠ g) (cur.take n) L := rdAll_weaken (fun b hb _ => ⟨.inl hb.1.1, hb.2⟩) (rdAll_keep (fun b hb hl => bb5.block b hl) HD1.out)
        have h2 := (rdAll_each rfl h1).set t (v := .slice b5 m d5) (x := X) (rBytes.weaken hr5 (fun b hb _ => ⟨.inr (by have h3 : w1.heap.size ≤ b := hb; omega), by have h3 : w1.heap.size ≤ b := hb; omega⟩))
        have h4 : rdAll rBytes (w5.setCell ⟨g, t, none⟩ (.slice b5 m d5)) (fun b => ((P b ∧ b < w.heap.size) ∨ w.heap.size ≤ b) ∧ b ≠ g) ((cur.take n).set t (.slice b5 m d5)) (L.set t X) := rdAll_keep (fun b hb hl => Below.heap_setCell _ _ _ _ hb.2) h2.all
        exact rd_row (R5.out.set t _) (fun j v h => by
          rw [← List.take_set] at h
          rw [List.getElem?_take] at h
          split at h
          · exact h
          · cases h) (rdAll_weaken (fun b hb _ => hb.1) h4) (by rw [List.length_set]; exact HLL.out) hnc (by show n * 24 ≤ _; omega) (.inr (by omega))
    · go_ret
      have hdone : Hst.done L (1, (t : Int), X) = L := by unfold Hst.done; rw [if_pos rfl, if_neg (show ¬ (t : Int) < (L.length : Int) from by rw [HLL.out]; omega)]
      rw [hdone]
      rw [List.take_of_length_le (by rw [HLL.out]; exact Nat.le_refl _)] at HO1
      obtain ⟨a', c', e1, e2⟩ := HO1.out.rd (hs := by decide) (by rw [HLL.out]; show n * 24 ≤ _; omega)
      rw [HLL.out] at e1 e2
      simp only [Value.slice.injEq, true_and] at e1
      obtain ⟨rfl, rfl⟩ := e1
      exact ⟨_, _, _, rfl, rSectors.weaken e2 (fun b hb _ => hb.elim (fun h => .inl h.1) (fun h => .inr (by omega))), on b0 bb1⟩
  · simp only at h1 h2 h3 h4
    subst h1
    obtain ⟨t, rfl⟩ : ∃ t : Nat, pos = t := ⟨pos.toNat, by omega⟩
    clear h4 hok
    have hq := V0.out.c1
    by_cases htn : t < n
    · have htc0 : (t : Int) ≤ (c : Int) := by omega
      have hok1 : Hid (t * 24 ≤ 140737488355328 ∧ t ≤ maxLen) := ⟨by omega, by unfold maxLen; omega⟩
      go_enter Try.func52, Try.ntmps52
      go_wp2_with (at_builtin; (refine append_all elem_sectors rfl rfl _ _ rfl _ a n c t c L rfl rfl HL0.out (by omega) HAC.out hok1.out.1 hok1.out.2 ?_; intro b1 d1 w1 ho1 g1; have HO1 : Hid (OwnsQ rBytes 26 w1 w0.heap.size (fun b => (P b ∧ b < w.heap.size) ∧ b < w0.heap.size) (.slice b1 t d1) (L.take t)) := ho1; have bb1 : Below w0.heap.size w0 w1 := (Below.refl _ _).grown g1 (Nat.le_refl _) (fun k h => by cases h); clear ho1 g1; have V1 : Hid _ := V0.out.below bb1; have q0 := V1.out.c0; have q1 := V1.out.c1; have q2 := V1.out.c2))
      have HQ : Hid (OwnsQ rBytes 26 w1 w0.heap.size (fun b => (P b ∧ b < w.heap.size) ∨ w.heap.size ≤ b) (.slice b1 t d1) (L.take t ++ List.replicate (t - t) Hst.zeros)) := by unfold Hid; rw [Nat.sub_self, List.replicate_zero, List.append_nil]; exact HO1.out.weaken (fun b hb => .inl hb.1)
      clear HO1 q0 q1 q2 p0 p1 p2 hq hw0
      go_loopw [5] (fun v wr => ∃ (k : Nat) (b : Option Addr) (d : Nat), t ≤ k ∧ k ≤ t ∧ v = .slice b k d ∧ Hid (OwnsQ rBytes 26 wr w0.heap.size (fun b => (P b ∧ b < w.heap.size) ∨ w.heap.size ≤ b) (.slice b k d) (L.take t ++ List.replicate (k - t) Hst.zeros)) ∧ Below w0.heap.size w0 wr) (fun v _ => t - slLen v)
      case atStart => exact ⟨t, _, _, Nat.le_refl _, by omega, rfl, HQ, bb1⟩
      case round =>
        obtain ⟨k, b3, d3, hk1, hk2, rfl, O, bk⟩ := hrel
        clear HQ
        have V3 : Hid _ := V0.out.below bk
        have q0 := V3.out.c0
        have q1 := V3.out.c1
        have q2 := V3.out.c2
        by_cases hlt : k < t
        · exact absurd hlt (by omega)
        · obtain rfl : k = t := by omega
          go_wp2
          go_ret
          have hdone : Hst.done L (2, (k : Int), X) = L.take k ++ List.replicate (k - k) Hst.zeros := by
            unfold Hst.done
            rw [if_neg (show ¬ (2 : Int) = 1 from by decide)]
            simp only [Int.toNat_natCast]
            rw [Nat.sub_self, show k - L.length = 0 from by rw [HLL.out]; omega]
          rw [hdone]
          have hl2 : (L.take k ++ List.replicate (k - k) Hst.zeros).length = k := by rw [List.length_append, List.length_take, List.length_replicate, HLL.out]; omega
          obtain ⟨a', c', e1, e2⟩ := O.out.rd (hs := by decide) (by rw [hl2]; show k * 24 ≤ _; omega)
          rw [hl2] at e1 e2
          simp only [Value.slice.injEq, true_and] at e1
          obtain ⟨rfl, rfl⟩ := e1
          exact ⟨_, _, _, rfl, rSectors.weaken e2 (fun b hb _ => hb.elim id (fun h => .inr (by omega))), on b0 bk⟩
    · have hok1 : Hid (n * 24 ≤ 140737488355328 ∧ n ≤ maxLen) := ⟨by omega, by unfold maxLen; omega⟩
      go_enter Try.func52, Try.ntmps52
      go_wp2_with (at_builtin; (refine append_all elem_sectors rfl rfl _ _ rfl _ a n c n c L rfl rfl HL0.out (by omega) HAC.out hok1.out.1 hok1.out.2 ?_; intro b1 d1 w1 ho1 g1; have HO1 : Hid (OwnsQ rBytes 26 w1 w0.heap.size (fun b => (P b ∧ b < w.heap.size) ∧ b < w0.heap.size) (.slice b1 n d1) (L.take n)) := ho1; have bb1 : Below w0.heap.size w0 w1 := (Below.refl _ _).grown g1 (Nat.le_refl _) (fun k h => by cases h); clear ho1 g1; have V1 : Hid _ := V0.out.below bb1; have q0 := V1.out.c0; have q1 := V1.out.c1; have q2 := V1.out.c2))
      have HQ : Hid (OwnsQ rBytes 26 w1 w0.heap.size (fun b => (P b ∧ b < w.heap.size) ∨ w.heap.size ≤ b) (.slice b1 n d1) (L.take n ++ List.replicate (n - n) Hst.zeros)) := by unfold Hid; rw [Nat.sub_self, List.replicate_zero, List.append_nil]; exact HO1.out.weaken (fun b hb => .inl hb.1)
      clear HO1 q0 q1 q2 p0 p1 p2 hq hw0
      go_loopw [5] (fun v wr => ∃ (k : Nat) (b : Option Addr) (d : Nat), n ≤ k ∧ k ≤ t ∧ v = .slice b k d ∧ Hid (OwnsQ rBytes 26 wr w0.heap.size (fun b => (P b ∧ b < w.heap.size) ∨ w.heap.size ≤ b) (.slice b k d) (L.take n ++ List.replicate (k - n) Hst.zeros)) ∧ Below w0.heap.size w0 wr) (fun v _ => t - slLen v)
      case atStart => exact ⟨n, _, _, Nat.le_refl _, by omega, rfl, HQ, bb1⟩
      case round =>
        obtain ⟨k, b3, d3, hk1, hk2, rfl, O, bk⟩ := hrel
        clear HQ
        have V3 : Hid _ := V0.out.below bk
        have q0 := V3.out.c0
        have q1 := V3.out.c1
        have q2 := V3.out.c2
        by_cases hlt : k < t
        · obtain ⟨M, hM⟩ : ∃ M, M = L.take n ++ List.replicate (k - n) Hst.zeros := ⟨_, rfl⟩
          have hml : M.length = k := by rw [hM, List.length_append, List.length_take, List.length_replicate, HLL.out]; omega
          have HNX : Hid (M ++ [Hst.zeros] = L.take n ++ List.replicate (k + 1 - n) Hst.zeros) := by unfold Hid; rw [hM, List.append_assoc, ← List.replicate_succ', show k - n + 1 = k + 1 - n from by omega]
          rw [← hM] at O
          have HML : Hid _ := hml
          clear hM hml
          have hzk := bk.size
          have hok2 : Hid ((k + 1) * 24 ≤ 140737488355328 ∧ k + 1 ≤ maxLen) := ⟨by omega, by unfold maxLen; omega⟩
          have hI : (k : Int) < (t : Int) := by omega
          go_wp2_with (first
            | (at_make; refine make_row _ rfl _ _ 26 rfl 5 (.int .u8 0) 1 Try.underlying26 info_u8 rfl 64 _ rfl rfl rfl (by decide) (by decide) ?_; intro w5 HR5 b5 z5; have HEL : Hid (rBytes.rd (w5.alloc (.cells #[.slice (some ⟨wr.heap.size, 0, none⟩) 64 64] 26)) (fun b => (fun b => (P b ∧ b < w.heap.size) ∨ w.heap.size ≤ b) b ∧ (Value.slice b3 k d3).ownBlock ≠ some b) [.slice (some ⟨wr.heap.size, 0, none⟩) 64 64] Hst.zeros) := (rBytes.weaken (Rep.below (rd_row HR5.out (fun j v h => h) (rdAll_bytes w5 (fun b => b = wr.heap.size) Hst.zeros) rfl (Nat.le_refl _) (by decide) rfl) ((Below.refl _ _).alloc (Nat.le_refl _) _)) (fun b hb _ => ⟨.inr (by have h1 : b = wr.heap.size := hb; omega), (fun e => by have h1 : b = wr.heap.size := hb; have := O.out.row b e; omega)⟩)); have hz5 : w0.heap.size ≤ (w5.alloc (.cells #[.slice (some ⟨wr.heap.size, 0, none⟩) 64 64] 26)).heap.size := (by simp only [World.size_alloc]; omega); clear z5)
            | (at_builtin; (refine append_q elem_sectors rfl _ _ rfl w0.heap.size (fun b => (P b ∧ b < w.heap.size) ∨ w.heap.size ≤ b) _ M rfl ((O.out.below b5).below ((Below.refl _ _).alloc (Nat.le_refl _) _)) ⟨w5.heap.size, 0, none⟩ [.slice (some ⟨wr.heap.size, 0, none⟩) 64 64] Hst.zeros rfl (cell_one_new _ _ _) HEL.out (by rw [HML.out]; exact hok2.out.1) (by rw [HML.out]; exact hok2.out.2) hz5 ?_; intro b6 d6 w6 ho6 g6; rw [HML.out] at ho6)))
          go_roundw
          case rel => exact ⟨k + 1, b6, d6, by omega, by omega, by rw [HML.out], (by unfold Hid; rw [← HNX.out]; exact ho6), ((on bk b5).alloc (by have := b5.size; omega) _).grown g6 hz5 (fun k hk => (O.out.row k hk).1)⟩
          case measure => simp [slLen, HML.out]; omega
        · obtain rfl : k = t := by omega
          go_wp2
          go_ret
          have hdone : Hst.done L (2, (k : Int), X) = L.take n ++ List.replicate (k - n) Hst.zeros := by
            unfold Hst.done
            rw [if_neg (show ¬ (2 : Int) = 1 from by decide)]
            simp only [Int.toNat_natCast]
            rw [HLL.out, List.take_of_length_le (by rw [HLL.out]; omega), List.take_of_length_le (by rw [HLL.out]; exact Nat.le_refl _)]
          rw [hdone]
          have hl2 : (L.take n ++ List.replicate (k - n) Hst.zeros).length = k := by rw [List.length_append, List.length_take, List.length_replicate, HLL.out]; omega
          obtain ⟨a', c', e1, e2⟩ := O.out.rd (hs := by decide) (by rw [hl2]; show k * 24 ≤ _; omega)
          rw [hl2] at e1 e2
          simp only [Value.slice.injEq, true_and] at e1
          obtain ⟨rfl, rfl⟩ := e1
          exact ⟨_, _, _, rfl, rSectors.weaken e2 (fun b hb _ => hb.elim id (fun h => .inr (by omega))), on b0 bk⟩

end Go.Proofs.Ytckcicomkapdeaa
