/-
  Facts that the proof rests on, part 19. Conditions: those that each of them names.
-/
import Derived.Test.YtflcojljpbojlabM00
import Derived.Test.YtflcojljpbojlabM09
import Derived.Test.YtflcojljpbojlabM10
import Derived.Test.YtflcojljpbojlabM13
import Derived.Test.YtflcojljpbojlabM16
import Derived.Test.YtflcojljpbojlabM17
namespace Go.Proofs.Ytflcojljpbojlab
open Go.RowKit
set_option linter.unusedVariables false
theorem rOpn.of {w : World} {P : Nat → Prop} {k at' N id : Int} {nm : ByteArray} {dt : List UInt8} {xa : Option Addr} {xn xc : Nat} (h1 : I64 k) (h2 : I64 at') (h3 : I64 N) (h4 : I64 id) (h5 : nm.size ≤ maxLen) (h : rBytes.rd w P [.slice xa xn xc] dt) :
    rOpn.rd w P [.int .i64 k, .int .i64 at', .int .i64 N, .int .i64 id, .string nm, .slice xa xn xc] (k, at', N, id, nm, dt) :=
  ⟨[_], [_, _, _, _, _], rfl, ⟨rfl, h1⟩, [_], [_, _, _, _], rfl, ⟨rfl, h2⟩, [_], [_, _, _], rfl, ⟨rfl, h3⟩, [_], [_, _], rfl, ⟨rfl, h4⟩, [_], [_], rfl, ⟨rfl, h5⟩, h⟩
set_option maxRecDepth 20000 in
theorem do_v (w : World) (P : Nat → Prop) (a b : Option Addr) (n c m d : Nat) (next : Int) (s : Sta) (hS : rSta.rd w P [.slice a n c, .slice b m d, .int .i64 next] s) (k at' N id : Int) (nm : ByteArray) (dt : List UInt8) (xa : Option Addr) (xn xc : Nat) (h1 : I64 k) (h2 : I64 at') (h3 : I64 N) (h4 : I64 id) (h5 : nm.size ≤ maxLen) {P' : Nat → Prop} (hX : rBytes.rd w P' [.slice xa xn xc] dt) :
    Calls Try.prog 5 #[.agg #[.slice a n c, .slice b m d, .int .i64 next], .agg #[.int .i64 k, .int .i64 at', .int .i64 N, .int .i64 id, .string nm, .slice xa xn xc]] w fun e w' => ∃ (a' : Option Addr) (n' c' : Nat) (b' : Option Addr) (m' d' : Nat) (next' : Int) (da : Option Addr) (dn dc : Nat) (la : Option Addr) (ln lc : Nat),
      e = .returned (.tuple #[.agg #[.slice a' n' c', .slice b' m' d', .int .i64 next'], .agg #[.int .i64 (Mo.doR s (k, at', N, id, nm, dt)).1, .slice da dn dc, .int .i64 (Mo.doR s (k, at', N, id, nm, dt)).2.2.1, .slice la ln lc, .int .i64 (Mo.doR s (k, at', N, id, nm, dt)).2.2.2.2]]) ∧
      rSta.rd w' (fun q => w.heap.size ≤ q) [.slice a' n' c', .slice b' m' d', .int .i64 next'] (Mo.doS s (k, at', N, id, nm, dt)) ∧ rBytes.rd w' (fun q => w.heap.size ≤ q) [.slice da dn dc] (Mo.doR s (k, at', N, id, nm, dt)).2.1 ∧ rNmds.rd w' (fun q => w.heap.size ≤ q) [.slice la ln lc] (Mo.doR s (k, at', N, id, nm, dt)).2.2.2.1 ∧ Below w.heap.size w w' := by
  obtain ⟨a', n', c', b', m', d', e, -, -, -⟩ := rSta_cells hS
  simp only [List.cons.injEq, Value.slice.injEq, Value.int.injEq, and_true, true_and] at e
  obtain ⟨-, -, rfl⟩ := e
  refine Calls.mono (do_u w (fun _ => True) a b n c m d s (rSta.weaken hS (fun _ _ _ => trivial)) k at' N id nm dt xa xn xc (rOpn.of h1 h2 h3 h4 h5 (rBytes.weaken hX (fun _ _ _ => trivial)))) ?_
  rintro e w' ⟨cs, rs, db, rfl, h1, ⟨da, dn, dc, la, ln, lc, rfl, h3, h4⟩, h5, h6, h7⟩
  obtain ⟨a', n', c', b', m', d', rfl, -, -, -⟩ := rSta_cells h1
  exact ⟨a', n', c', b', m', d', _, da, dn, dc, la, ln, lc, rfl, rSta.weaken h1 (fun q hq _ => hq.1), rBytes.weaken h3.1 (fun q hq _ => by have h : q = db := hq; show w.heap.size ≤ q; omega), h4, h7⟩
theorem sta_parts {w : World} {P : Nat → Prop} {a b : Option Addr} {n c m d : Nat} {t : Int} {s : Sta} (h : rSta.rd w P [.slice a n c, .slice b m d, .int .i64 t] s) :
    rSectors.rd w P [.slice a n c] s.1 ∧ rSnps.rd w P [.slice b m d] s.2.1 ∧ s.1.length = n ∧ s.2.1.length = m ∧ t = s.2.2 := by
  obtain ⟨a', n', c', b', m', d', e, h1, h2, -⟩ := rSta_cells h
  simp only [List.cons.injEq, Value.slice.injEq, Value.int.injEq, and_true, true_and] at e
  obtain ⟨⟨rfl, rfl, rfl⟩, ⟨rfl, rfl, rfl⟩, rfl⟩ := e
  exact ⟨h1, h2, (rL_len h1).1, (rL_len h2).1, rfl⟩
theorem fresh2 (wd : World) (x0 x1 x2 y0 y1 y2 y3 y4 : Value) : ∃ wA wB wX wY, wd.alloc (.cells #[.slice none 0 0, .slice none 0 0, .int .i64 0] 29) = wA ∧ wA.alloc (.cells #[.int .i64 0, .slice none 0 0, .int .i64 0, .slice none 0 0, .int .i64 0] 34) = wB ∧ Row wB wd.heap.size 29 [.slice none 0 0, .slice none 0 0, .int .i64 0] ∧
    ((wB.setCell ⟨wd.heap.size, 0, none⟩ x0).setCell ⟨wd.heap.size, 1, none⟩ x1).setCell ⟨wd.heap.size, 2, none⟩ x2 = wX ∧ Row wX wA.heap.size 34 [.int .i64 0, .slice none 0 0, .int .i64 0, .slice none 0 0, .int .i64 0] ∧
    ((((wX.setCell ⟨wA.heap.size, 0, none⟩ y0).setCell ⟨wA.heap.size, 1, none⟩ y1).setCell ⟨wA.heap.size, 2, none⟩ y2).setCell ⟨wA.heap.size, 3, none⟩ y3).setCell ⟨wA.heap.size, 4, none⟩ y4 = wY ∧ Row wY wd.heap.size 29 [x0, x1, x2] ∧ Row wY wA.heap.size 34 [y0, y1, y2, y3, y4] ∧ Below wd.heap.size wd wY ∧ wd.heap.size < wA.heap.size := by
  obtain ⟨wA, hwA, VA, bA, zA⟩ := boxedRow wd 29 [.slice none 0 0, .slice none 0 0, .int .i64 0]
  obtain ⟨wB, hwB, VB, bB, zB⟩ := boxedRow wA 34 [.int .i64 0, .slice none 0 0, .int .i64 0, .slice none 0 0, .int .i64 0]
  have V1 := VA.below bB
  obtain ⟨wX, hwX, VX, KX⟩ := V1.whole3 x0 x1 x2
  have V2 := VB.keep (KX.block wA.heap.size (by omega))
  obtain ⟨wY, hwY, VY, KY⟩ := V2.whole5 y0 y1 y2 y3 y4
  exact ⟨wA, wB, wX, wY, hwA, hwB, V1, hwX, V2, hwY, VX.keep (KY.block wd.heap.size (by omega)), VY, Kept.belowOf (Kept.belowOf (on bA bB) KX (Nat.le_refl _)) KY (by omega), by omega⟩
theorem upd2 {wd : World} {B : Nat} {u0 u1 u2 : Value} (V : Row wd B 29 [u0, u1, u2]) (x0 x1 x2 y0 y1 y2 y3 y4 : Value) : ∃ wA wX wY, wd.alloc (.cells #[.int .i64 0, .slice none 0 0, .int .i64 0, .slice none 0 0, .int .i64 0] 34) = wA ∧ Row wA B 29 [u0, u1, u2] ∧
    ((wA.setCell ⟨B, 0, none⟩ x0).setCell ⟨B, 1, none⟩ x1).setCell ⟨B, 2, none⟩ x2 = wX ∧ Row wX wd.heap.size 34 [.int .i64 0, .slice none 0 0, .int .i64 0, .slice none 0 0, .int .i64 0] ∧
    ((((wX.setCell ⟨wd.heap.size, 0, none⟩ y0).setCell ⟨wd.heap.size, 1, none⟩ y1).setCell ⟨wd.heap.size, 2, none⟩ y2).setCell ⟨wd.heap.size, 3, none⟩ y3).setCell ⟨wd.heap.size, 4, none⟩ y4 = wY ∧ Row wY B 29 [x0, x1, x2] ∧ Row wY wd.heap.size 34 [y0, y1, y2, y3, y4] ∧ Kept (fun q => q < wd.heap.size ∧ q ≠ B) wd wY := by
  obtain ⟨wA, hwA, VA, bA, zA⟩ := boxedRow wd 34 [.int .i64 0, .slice none 0 0, .int .i64 0, .slice none 0 0, .int .i64 0]
  have hl := V.lt
  have V1 := V.below bA
  obtain ⟨wX, hwX, VX, KX⟩ := V1.whole3 x0 x1 x2
  have V2 := VA.keep (KX.block wd.heap.size (by show wd.heap.size ≠ B; omega))
  obtain ⟨wY, hwY, VY, KY⟩ := V2.whole5 y0 y1 y2 y3 y4
  exact ⟨wA, wX, wY, hwA, V1, hwX, V2, hwY, VX.keep (KY.block B (by show B ≠ wd.heap.size; omega)), VY, (((Kept.below bA).mono (fun q hq => hq.1)).trans (KX.mono (fun q hq => hq.2))).trans (KY.mono (fun q hq => by have h := hq.1; omega))⟩
def octL (c : UInt8) : List UInt8 := (List.replicate 64 0).set 5 c
theorem octL_cells (c : UInt8) : (List.replicate 64 (Value.int .u8 0)).set 5 (.int .u8 (c.toNat : Int)) = cellsOf (octL c) := rfl
set_option maxRecDepth 20000 in
set_option maxHeartbeats 1000000 in
theorem octets_u (w : World) (x : Int) (c : UInt8) (hx : x = (c.toNat : Int)) : Calls Try.prog 9 #[.int .u8 x] w fun e w' => ∃ g, e = .returned (.slice (some ⟨g, 0, none⟩) 64 64) ∧ rBytes.rd w' (fun q => w.heap.size ≤ q) [.slice (some ⟨g, 0, none⟩) 64 64] (octL c) ∧ Below w.heap.size w w' := by
  subst hx
  go_enter Try.func9, Try.ntmps9
  go_wp2_with (at_make; refine make_row _ rfl _ _ 31 rfl 5 (.int .u8 0) 1 Try.underlying31 info_u8 rfl 64 _ rfl rfl rfl (by decide) (by decide) ?_; intro w1 HR b1 z1; have c4 := HR.out.cell (j := 5) (v := .int .u8 0) rfl; have f4 := HR.out.frozen 5)
  go_ret
  have R4 := HR.out.set 5 (.int .u8 (c.toNat : Int))
  rw [octL_cells] at R4
  exact ⟨w.heap.size, rfl, rd_row R4 (fun j v h => h) (rdAll_bytes _ _ _) rfl (Nat.le_refl _) (by decide) (Nat.le_refl _), b1.setCell (p := ⟨w.heap.size, 5, none⟩) (Nat.le_refl _) _⟩
end Go.Proofs.Ytflcojljpbojlab
namespace Go.Proofs.Ytflcojljpbojlab
open Go.RowKit
set_option linter.unusedVariables false
def nmA : ByteArray := { data := #[97] }
def alS1 : Sta := Mo.newS 2
def alS2 : Sta := Mo.doS alS1 (1, 0, 0, 0, ⟨#[]⟩, octL 1)
def alS3 : Sta := Mo.doS alS2 (4, 0, 0, 0, nmA, [])
def alS4 : Sta := Mo.doS alS3 (1, 0, 0, 0, ⟨#[]⟩, octL 2)
def alS5 : Sta := Mo.doS alS4 (6, 0, 0, 1, ⟨#[]⟩, [])
theorem al_E : Mo.newE 2 = 0 := rfl
theorem al_R3 : (Mo.doR alS2 (4, 0, 0, 0, nmA, [])).2.2.1 = 1 := by decide +kernel
theorem al_R6 : (Mo.doR alS5 (2, 0, 1, 0, ⟨#[]⟩, [])).2.1 = octL 1 := by decide +kernel
set_option maxRecDepth 20000 in
set_option maxHeartbeats 8000000 in
theorem alive10_u (w : World) : Calls Try.prog 4 #[] w fun e w' => e = .returned (.bool true) ∧ Below w.heap.size w w' := by
  go_enter Try.func4, Try.ntmps4
  go_wp2_with fail
  go_at_call 8
  refine Calls.mono (new_u w 2 (by unfold I64; decide)) ?_
  rintro e w1 ⟨cs1, rfl, hr1, bw1⟩
  rw [al_E]
  obtain ⟨a1, n1, c1, b1, m1, d1, rfl, -, -, -⟩ := rSta_cells hr1
  obtain ⟨t1, ht1⟩ : ∃ t, t = (Mo.newS 2).2.2 := ⟨_, rfl⟩
  rw [← ht1] at hr1 ⊢
  obtain ⟨v1, hv1, V1', bv1, zv1⟩ := boxedRow w1 29 [.slice a1 n1 c1, .slice b1 m1 d1, .int .i64 t1]
  obtain ⟨B, hB⟩ : ∃ B, B = w1.heap.size := ⟨_, rfl⟩
  have HB : Hid (w.heap.size ≤ B) := by rw [hB]; exact bw1.size
  have V1 : Hid (Row v1 B 29 [.slice a1 n1 c1, .slice b1 m1 d1, .int .i64 t1]) := by rw [hB]; exact V1'
  have HR1 : Hid (rSta.rd v1 (· ≠ B) [.slice a1 n1 c1, .slice b1 m1 d1, .int .i64 t1] alS1) := by
    have h : rSta.rd w1 (fun q => q < w1.heap.size) [.slice a1 n1 c1, .slice b1 m1 d1, .int .i64 t1] alS1 := rSta.weaken hr1 (fun q _ hq => hq)
    rw [hB]
    exact rSta.weaken (Rep.below h bv1) (fun q hq _ => by have h : q < w1.heap.size := hq; show q ≠ w1.heap.size; omega)
  have BW1 : Hid (Below w.heap.size w v1) := on bw1 bv1
  have HBv1 : Hid (w.heap.size ≤ v1.heap.size) := BW1.out.size
  have hB' : w1.heap.size = B := hB.symm
  clear hr1 ht1 V1' bv1 zv1 bw1 hB
  go_wp2_with fail
  go_cut [10] (fun _ wx => ∃ a n c b m d t, Hid (Row wx B 29 [.slice a n c, .slice b m d, .int .i64 t]) ∧ Hid (rSta.rd wx (· ≠ B) [.slice a n c, .slice b m d, .int .i64 t] alS2) ∧ Hid (Below w.heap.size w wx))
  case first =>
    refine wp_region_held_drew (S := (fun _ : World => True)) (by kernel_rfl) (trivial) (fun hHeld => ?_)
    refine wpAnyH_ready (rs := [0, 1]) (by kernel_rfl) (by simp) ?_
    refine AllReadyH.cons rfl (fun K hK => ?_) ?_
    · have p0 := V1.out.cell (j := 0) rfl
      have p1 := V1.out.cell (j := 1) rfl
      have p2 := V1.out.cell (j := 2) rfl
      go_simp
      clear p0 p1 p2
      refine hK.out _ _ ?_ (fun hHeld => ?_)
      · try dsimp only
        all_goals exact trivial
      clear hK K
      refine wpAnyH_ready (rs := [1]) (by kernel_rfl) (by simp) ?_
      refine AllReadyH.cons rfl (fun K hK => ?_) ?_
      · go_simp
        go_at_call 9
        refine Calls.mono (octets_u v1.drew 1 1 rfl) ?_
        rintro e wo ⟨g, rfl, hro, bo⟩
        have BO : Hid (Below v1.heap.size v1 wo) := (Below.refl _ v1).drew.trans bo
        have HRO : Hid (rBytes.rd wo (fun q => v1.heap.size ≤ q) [.slice (some ⟨g, 0, none⟩) 64 64] (octL 1)) := hro
        clear hro bo
        go_simp
        refine hK.out _ _ ?_ (fun hHeld => ?_)
        · try dsimp only
          all_goals exact trivial
        clear hK K
        refine wpAnyH_takeL (i := 2) (v := ?_) rfl rfl (by kernel_rfl) (by kernel_rfl) (by kernel_rfl) (fun _ _ _ h => h) (Or.inl ⟨by rfl, ?_⟩) (by assumption) ?_
        rotate_left
        · intro w hSw
          try dsimp only at hSw
          go_simp
          all_goals with_reducible rfl
        simp only [List.set_cons_zero, List.set_cons_succ]
        refine wpAnyH_ready (rs := [3]) (by kernel_rfl) (by simp) ?_
        refine AllReadyH.cons rfl (fun K hK => ?_) ?_
        · go_simp
          go_at_call 5
          refine Calls.mono (do_v wo (fun _ => True) a1 b1 n1 c1 m1 d1 t1 alS1 (rSta.weaken (Rep.below HR1.out BO.out) (fun _ _ _ => trivial)) 1 0 0 0 ⟨#[]⟩ (octL 1) (some ⟨g, 0, none⟩) 64 64 (by unfold I64; decide) (by unfold I64; decide) (by unfold I64; decide) (by unfold I64; decide) (by decide) HRO.out) ?_
          rintro e wd ⟨a', n', c', b', m', d', t', da, dn, dc, la, ln, lc, rfl, hrd, -, -, bd⟩
          have HRD : Hid (rSta.rd wd (fun q => wo.heap.size ≤ q) [.slice a' n' c', .slice b' m' d', .int .i64 t'] alS2) := hrd
          have BD : Hid (Below v1.heap.size v1 wd) := on BO.out bd
          have VD : Hid (Row wd B 29 [.slice a1 n1 c1, .slice b1 m1 d1, .int .i64 t1]) := V1.out.below BD.out
          clear hrd bd
          go_simp
          refine hK.out _ _ ?_ (fun hHeld => ?_)
          · try dsimp only
            all_goals exact trivial
          clear hK K
          refine wpAnyH_takeL (i := 4) (v := ?_) rfl rfl (by kernel_rfl) (by kernel_rfl) (by kernel_rfl) (fun _ _ _ h => h) (Or.inl ⟨by rfl, ?_⟩) (by assumption) ?_
          rotate_left
          · intro w hSw
            try dsimp only at hSw
            go_simp
            all_goals with_reducible rfl
          simp only [List.set_cons_zero, List.set_cons_succ]
          refine wpAnyH_takeL (i := 5) (v := ?_) rfl rfl (by kernel_rfl) (by kernel_rfl) (by kernel_rfl) (fun _ _ _ h => h) (Or.inl ⟨by rfl, ?_⟩) (by assumption) ?_
          rotate_left
          · intro w hSw
            try dsimp only at hSw
            go_simp
            all_goals with_reducible rfl
          simp only [List.set_cons_zero, List.set_cons_succ]
          refine wpAnyH_takeL (i := 6) (v := ?_) rfl rfl (by kernel_rfl) (by kernel_rfl) (by kernel_rfl) (fun _ _ _ h => h) (Or.inl ⟨by rfl, ?_⟩) (by assumption) ?_
          rotate_left
          · intro w hSw
            try dsimp only at hSw
            go_simp
            all_goals with_reducible rfl
          simp only [List.set_cons_zero, List.set_cons_succ]
          refine wpAnyH_ready (rs := [7]) (by kernel_rfl) (by simp) ?_
          refine AllReadyH.cons rfl (fun K hK => ?_) ?_
          · have p0 := VD.out.cell (j := 0) rfl
            have p1 := VD.out.cell (j := 1) rfl
            have p2 := VD.out.cell (j := 2) rfl
            have f0 := VD.out.frozen 0
            have f1 := VD.out.frozen 1
            have f2 := VD.out.frozen 2
            obtain ⟨wX, hwX, VX', KX'⟩ := VD.out.whole3 (.slice a' n' c') (.slice b' m' d') (.int .i64 t')
            have VX : Hid _ := VX'
            have KX : Hid _ := KX'
            clear VX' KX'
            go_simp
            clear p0 p1 p2 f0 f1 f2
            refine hK.out _ _ ?_ (fun hHeld => ?_)
            · try dsimp only
              all_goals exact trivial
            clear hK K
            refine wpAnyH_done (by kernel_rfl) ?_ _
            clear hHeld
            go_wp2_with fail
            go_meet
            exact ⟨a', n', c', b', m', d', t', VX, Rep.kept HRD.out KX.out (fun q hq _ => by have h1 : wo.heap.size ≤ q := hq; have h2 := BO.out.size; have h3 := V1.out.lt; show q ≠ B; omega) |> fun h => rSta.weaken h (fun q hq _ => by have h1 : wo.heap.size ≤ q := hq; have h2 := BO.out.size; have h3 := V1.out.lt; show q ≠ B; omega), Kept.belowOf (BW1.out.trans (BD.out.mono HBv1.out)) KX.out HB.out⟩
          exact AllReadyH.nil
        exact AllReadyH.nil
      exact AllReadyH.nil
    refine AllReadyH.cons rfl (fun K hK => ?_) ?_
    · go_simp
      go_at_call 9
      refine Calls.mono (octets_u v1.drew 1 1 rfl) ?_
      rintro e wo ⟨g, rfl, hro, bo⟩
      have BO : Hid (Below v1.heap.size v1 wo) := (Below.refl _ v1).drew.trans bo
      have HRO : Hid (rBytes.rd wo (fun q => v1.heap.size ≤ q) [.slice (some ⟨g, 0, none⟩) 64 64] (octL 1)) := hro
      clear hro bo
      go_simp
      refine hK.out _ _ ?_ (fun hHeld => ?_)
      · try dsimp only
        all_goals exact trivial
      clear hK K
      refine wpAnyH_takeL (i := 2) (v := ?_) rfl rfl (by kernel_rfl) (by kernel_rfl) (by kernel_rfl) (fun _ _ _ h => h) (Or.inl ⟨by rfl, ?_⟩) (by assumption) ?_
      rotate_left
      · intro w hSw
        try dsimp only at hSw
        go_simp
        all_goals with_reducible rfl
      simp only [List.set_cons_zero, List.set_cons_succ]
      refine wpAnyH_ready (rs := [0]) (by kernel_rfl) (by simp) ?_
      refine AllReadyH.cons rfl (fun K hK => ?_) ?_
      · have p0 := (V1.out.below BO.out).cell (j := 0) rfl
        have p1 := (V1.out.below BO.out).cell (j := 1) rfl
        have p2 := (V1.out.below BO.out).cell (j := 2) rfl
        go_simp
        clear p0 p1 p2
        refine hK.out _ _ ?_ (fun hHeld => ?_)
        · try dsimp only
          all_goals exact trivial
        clear hK K
        refine wpAnyH_ready (rs := [3]) (by kernel_rfl) (by simp) ?_
        refine AllReadyH.cons rfl (fun K hK => ?_) ?_
        · go_simp
          go_at_call 5
          refine Calls.mono (do_v wo (fun _ => True) a1 b1 n1 c1 m1 d1 t1 alS1 (rSta.weaken (Rep.below HR1.out BO.out) (fun _ _ _ => trivial)) 1 0 0 0 ⟨#[]⟩ (octL 1) (some ⟨g, 0, none⟩) 64 64 (by unfold I64; decide) (by unfold I64; decide) (by unfold I64; decide) (by unfold I64; decide) (by decide) HRO.out) ?_
          rintro e wd ⟨a', n', c', b', m', d', t', da, dn, dc, la, ln, lc, rfl, hrd, -, -, bd⟩
          have HRD : Hid (rSta.rd wd (fun q => wo.heap.size ≤ q) [.slice a' n' c', .slice b' m' d', .int .i64 t'] alS2) := hrd
          have BD : Hid (Below v1.heap.size v1 wd) := on BO.out bd
          have VD : Hid (Row wd B 29 [.slice a1 n1 c1, .slice b1 m1 d1, .int .i64 t1]) := V1.out.below BD.out
          clear hrd bd
          go_simp
          refine hK.out _ _ ?_ (fun hHeld => ?_)
          · try dsimp only
            all_goals exact trivial
          clear hK K
          refine wpAnyH_takeL (i := 4) (v := ?_) rfl rfl (by kernel_rfl) (by kernel_rfl) (by kernel_rfl) (fun _ _ _ h => h) (Or.inl ⟨by rfl, ?_⟩) (by assumption) ?_
          rotate_left
          · intro w hSw
            try dsimp only at hSw
            go_simp
            all_goals with_reducible rfl
          simp only [List.set_cons_zero, List.set_cons_succ]
          refine wpAnyH_takeL (i := 5) (v := ?_) rfl rfl (by kernel_rfl) (by kernel_rfl) (by kernel_rfl) (fun _ _ _ h => h) (Or.inl ⟨by rfl, ?_⟩) (by assumption) ?_
          rotate_left
          · intro w hSw
            try dsimp only at hSw
            go_simp
            all_goals with_reducible rfl
          simp only [List.set_cons_zero, List.set_cons_succ]
          refine wpAnyH_takeL (i := 6) (v := ?_) rfl rfl (by kernel_rfl) (by kernel_rfl) (by kernel_rfl) (fun _ _ _ h => h) (Or.inl ⟨by rfl, ?_⟩) (by assumption) ?_
          rotate_left
          · intro w hSw
            try dsimp only at hSw
            go_simp
            all_goals with_reducible rfl
          simp only [List.set_cons_zero, List.set_cons_succ]
          refine wpAnyH_ready (rs := [7]) (by kernel_rfl) (by simp) ?_
          refine AllReadyH.cons rfl (fun K hK => ?_) ?_
          · have p0 := VD.out.cell (j := 0) rfl
            have p1 := VD.out.cell (j := 1) rfl
            have p2 := VD.out.cell (j := 2) rfl
            have f0 := VD.out.frozen 0
            have f1 := VD.out.frozen 1
            have f2 := VD.out.frozen 2
            obtain ⟨wX, hwX, VX', KX'⟩ := VD.out.whole3 (.slice a' n' c') (.slice b' m' d') (.int .i64 t')
            have VX : Hid _ := VX'
            have KX : Hid _ := KX'
            clear VX' KX'
            go_simp
            clear p0 p1 p2 f0 f1 f2
            refine hK.out _ _ ?_ (fun hHeld => ?_)
            · try dsimp only
              all_goals exact trivial
            clear hK K
            refine wpAnyH_done (by kernel_rfl) ?_ _
            clear hHeld
            go_wp2_with fail
            go_meet
            exact ⟨a', n', c', b', m', d', t', VX, Rep.kept HRD.out KX.out (fun q hq _ => by have h1 : wo.heap.size ≤ q := hq; have h2 := BO.out.size; have h3 := V1.out.lt; show q ≠ B; omega) |> fun h => rSta.weaken h (fun q hq _ => by have h1 : wo.heap.size ≤ q := hq; have h2 := BO.out.size; have h3 := V1.out.lt; show q ≠ B; omega), Kept.belowOf (BW1.out.trans (BD.out.mono HBv1.out)) KX.out HB.out⟩
          exact AllReadyH.nil
        exact AllReadyH.nil
      exact AllReadyH.nil
    exact AllReadyH.nil
  obtain ⟨a2, n2, c2, b2, m2, d2, t2, V2, HR2, BW2⟩ := hcut
  obtain ⟨v2, hv2⟩ : ∃ v, v = wc := ⟨_, rfl⟩
  subst hv2
  have HBv2 : Hid (w.heap.size ≤ v2.heap.size) := BW2.out.size
  clear V1 HR1 BW1 HBv1
  have p0 := V2.out.cell (j := 0) rfl
  have p1 := V2.out.cell (j := 1) rfl
  have p2 := V2.out.cell (j := 2) rfl
  go_wp2_with fail
  go_at_call 5
  refine Calls.mono (do_v v2 (fun _ => True) a2 b2 n2 c2 m2 d2 t2 alS2 (rSta.weaken HR2.out (fun _ _ _ => trivial)) 4 0 0 0 ⟨#[97]⟩ [] none 0 0 (by unfold I64; decide) (by unfold I64; decide) (by unfold I64; decide) (by unfold I64; decide) (by decide) (P' := fun _ => True) (rBytes_none _ _ _ _ (fun _ => rfl))) ?_
  rintro e wd ⟨a3, n3, c3, b3, m3, d3, t3, dz, dzn, dzc, lz, lzn, lzc, rfl, hrd, hdd, -, bd⟩
  have HRD : Hid (rSta.rd wd (fun q => v2.heap.size ≤ q) [.slice a3 n3 c3, .slice b3 m3 d3, .int .i64 t3] alS3) := hrd
  have HDD : Hid _ := hdd
  have BD : Hid (Below v2.heap.size v2 wd) := bd
  have VD : Hid (Row wd B 29 [.slice a2 n2 c2, .slice b2 m2 d2, .int .i64 t2]) := V2.out.below bd
  clear hrd hdd bd p0 p1 p2
  rw [show Mo.doR alS2 (4, 0, 0, 0, ⟨#[97]⟩, []) = Mo.doR alS2 (4, 0, 0, 0, nmA, []) from rfl, al_R3]
  obtain ⟨z0, hz0⟩ : ∃ z, z = (Mo.doR alS2 (4, 0, 0, 0, nmA, [])).1 := ⟨_, rfl⟩
  obtain ⟨z1, hz1⟩ : ∃ z, z = (Mo.doR alS2 (4, 0, 0, 0, nmA, [])).2.2.2.2 := ⟨_, rfl⟩
  rw [← hz0, ← hz1]
  clear hz0 hz1 HDD
  obtain ⟨wd3, hwd3⟩ : ∃ wd3, wd3 = wd := ⟨_, rfl⟩
  subst hwd3
  obtain ⟨wA, wX, v3, hwA, va, hwX, vr, hv3, V3', VR', K3⟩ := upd2 VD.out (.slice a3 n3 c3) (.slice b3 m3 d3) (.int .i64 t3) (.int .i64 z0) (.slice dz dzn dzc) (.int .i64 1) (.slice lz lzn lzc) (.int .i64 z1)
  have p0 := va.cell (j := 0) rfl
  have p1 := va.cell (j := 1) rfl
  have p2 := va.cell (j := 2) rfl
  have f0 := va.frozen 0
  have f1 := va.frozen 1
  have f2 := va.frozen 2
  have r0 := vr.cell (j := 0) rfl
  have r1 := vr.cell (j := 1) rfl
  have r2 := vr.cell (j := 2) rfl
  have r3 := vr.cell (j := 3) rfl
  have r4 := vr.cell (j := 4) rfl
  have g0 := vr.frozen 0
  have g1 := vr.frozen 1
  have g2 := vr.frozen 2
  have g3 := vr.frozen 3
  have g4 := vr.frozen 4
  have V3 : Hid _ := V3'
  have VR3 : Hid (Row v3 wd3.heap.size 34 [.int .i64 z0, .slice dz dzn dzc, .int .i64 1, .slice lz lzn lzc, .int .i64 z1]) := VR'
  have HBR : Hid (B < wd3.heap.size) := Nat.lt_of_lt_of_le V2.out.lt BD.out.size
  have HR3 : Hid (rSta.rd v3 (· ≠ B) [.slice a3 n3 c3, .slice b3 m3 d3, .int .i64 t3] alS3) := by
    have h : rSta.rd wd3 (fun q => q < wd3.heap.size ∧ q ≠ B) [.slice a3 n3 c3, .slice b3 m3 d3, .int .i64 t3] alS3 := rSta.weaken HRD.out (fun q hq hl => ⟨hl, by have h1 : v2.heap.size ≤ q := hq; have h2 := V2.out.lt; omega⟩)
    exact rSta.weaken (Rep.kept h K3 (fun q hq _ => hq)) (fun q hq _ => hq.2)
  have BW3 : Hid (Below w.heap.size w v3) := Kept.toBelow ((Kept.below (BW2.out.trans (BD.out.mono HBv2.out))).trans (K3.mono (fun q hq => by have h1 : q < w.heap.size := hq; have h2 := HB.out; have h3 := V2.out.lt; have h4 := BD.out.size; exact ⟨by omega, by omega⟩)))
  have HBv3 : Hid (w.heap.size ≤ v3.heap.size) := BW3.out.size
  clear va vr V3' VR' K3 HRD BD VD V2 HR2 BW2 HBv2
  go_wp2_with fail
  clear p0 p1 p2 f0 f1 f2 r0 r1 r2 r3 r4 g0 g1 g2 g3 g4
  go_cut [23] (fun _ wx => ∃ a n c b m d t, Hid (Row wx B 29 [.slice a n c, .slice b m d, .int .i64 t]) ∧ Hid (rSta.rd wx (· ≠ B) [.slice a n c, .slice b m d, .int .i64 t] alS4) ∧ Hid (Below w.heap.size w wx) ∧ Hid (Row wx wd3.heap.size 34 [.int .i64 z0, .slice dz dzn dzc, .int .i64 1, .slice lz lzn lzc, .int .i64 z1]))
  case first =>
    refine wp_region_held_drew (S := (fun _ : World => True)) (by kernel_rfl) (trivial) (fun hHeld => ?_)
    refine wpAnyH_ready (rs := [0, 1]) (by kernel_rfl) (by simp) ?_
    refine AllReadyH.cons rfl (fun K hK => ?_) ?_
    · have p0 := V3.out.cell (j := 0) rfl
      have p1 := V3.out.cell (j := 1) rfl
      have p2 := V3.out.cell (j := 2) rfl
      go_simp
      clear p0 p1 p2
      refine hK.out _ _ ?_ (fun hHeld => ?_)
      · try dsimp only
        all_goals exact trivial
      clear hK K
      refine wpAnyH_ready (rs := [1]) (by kernel_rfl) (by simp) ?_
      refine AllReadyH.cons rfl (fun K hK => ?_) ?_
      · go_simp
        go_at_call 9
        refine Calls.mono (octets_u v3.drew 2 2 rfl) ?_
        rintro e wo ⟨g, rfl, hro, bo⟩
        have BO : Hid (Below v3.heap.size v3 wo) := (Below.refl _ v3).drew.trans bo
        have HRO : Hid (rBytes.rd wo (fun q => v3.heap.size ≤ q) [.slice (some ⟨g, 0, none⟩) 64 64] (octL 2)) := hro
        clear hro bo
        go_simp
        refine hK.out _ _ ?_ (fun hHeld => ?_)
        · try dsimp only
          all_goals exact trivial
        clear hK K
        refine wpAnyH_takeL (i := 2) (v := ?_) rfl rfl (by kernel_rfl) (by kernel_rfl) (by kernel_rfl) (fun _ _ _ h => h) (Or.inl ⟨by rfl, ?_⟩) (by assumption) ?_
        rotate_left
        · intro w hSw
          try dsimp only at hSw
          go_simp
          all_goals with_reducible rfl
        simp only [List.set_cons_zero, List.set_cons_succ]
        refine wpAnyH_ready (rs := [3]) (by kernel_rfl) (by simp) ?_
        refine AllReadyH.cons rfl (fun K hK => ?_) ?_
        · go_simp
          go_at_call 5
          refine Calls.mono (do_v wo (fun _ => True) a3 b3 n3 c3 m3 d3 t3 alS3 (rSta.weaken (Rep.below HR3.out BO.out) (fun _ _ _ => trivial)) 1 0 0 0 ⟨#[]⟩ (octL 2) (some ⟨g, 0, none⟩) 64 64 (by unfold I64; decide) (by unfold I64; decide) (by unfold I64; decide) (by unfold I64; decide) (by decide) HRO.out) ?_
          rintro e wd ⟨a', n', c', b', m', d', t', da, dn, dc, la, ln, lc, rfl, hrd, -, -, bd⟩
          have HRD : Hid (rSta.rd wd (fun q => wo.heap.size ≤ q) [.slice a' n' c', .slice b' m' d', .int .i64 t'] alS4) := hrd
          have BD : Hid (Below v3.heap.size v3 wd) := on BO.out bd
          have VD : Hid (Row wd B 29 [.slice a3 n3 c3, .slice b3 m3 d3, .int .i64 t3]) := V3.out.below BD.out
          clear hrd bd
          go_simp
          refine hK.out _ _ ?_ (fun hHeld => ?_)
          · try dsimp only
            all_goals exact trivial
          clear hK K
          refine wpAnyH_takeL (i := 4) (v := ?_) rfl rfl (by kernel_rfl) (by kernel_rfl) (by kernel_rfl) (fun _ _ _ h => h) (Or.inl ⟨by rfl, ?_⟩) (by assumption) ?_
          rotate_left
          · intro w hSw
            try dsimp only at hSw
            go_simp
            all_goals with_reducible rfl
          simp only [List.set_cons_zero, List.set_cons_succ]
          refine wpAnyH_takeL (i := 5) (v := ?_) rfl rfl (by kernel_rfl) (by kernel_rfl) (by kernel_rfl) (fun _ _ _ h => h) (Or.inl ⟨by rfl, ?_⟩) (by assumption) ?_
          rotate_left
          · intro w hSw
            try dsimp only at hSw
            go_simp
            all_goals with_reducible rfl
          simp only [List.set_cons_zero, List.set_cons_succ]
          refine wpAnyH_takeL (i := 6) (v := ?_) rfl rfl (by kernel_rfl) (by kernel_rfl) (by kernel_rfl) (fun _ _ _ h => h) (Or.inl ⟨by rfl, ?_⟩) (by assumption) ?_
          rotate_left
          · intro w hSw
            try dsimp only at hSw
            go_simp
            all_goals with_reducible rfl
          simp only [List.set_cons_zero, List.set_cons_succ]
          refine wpAnyH_ready (rs := [7]) (by kernel_rfl) (by simp) ?_
          refine AllReadyH.cons rfl (fun K hK => ?_) ?_
          · have p0 := VD.out.cell (j := 0) rfl
            have p1 := VD.out.cell (j := 1) rfl
            have p2 := VD.out.cell (j := 2) rfl
            have f0 := VD.out.frozen 0
            have f1 := VD.out.frozen 1
            have f2 := VD.out.frozen 2
            obtain ⟨wX, hwX, VX', KX'⟩ := VD.out.whole3 (.slice a' n' c') (.slice b' m' d') (.int .i64 t')
            have VX : Hid _ := VX'
            have KX : Hid _ := KX'
            clear VX' KX'
            go_simp
            clear p0 p1 p2 f0 f1 f2
            refine hK.out _ _ ?_ (fun hHeld => ?_)
            · try dsimp only
              all_goals exact trivial
            clear hK K
            refine wpAnyH_done (by kernel_rfl) ?_ _
            clear hHeld
            go_wp2_with fail
            go_meet
            exact ⟨a', n', c', b', m', d', t', VX, Rep.kept HRD.out KX.out (fun q hq _ => by have h1 : wo.heap.size ≤ q := hq; have h2 := BO.out.size; have h3 := V3.out.lt; show q ≠ B; omega) |> fun h => rSta.weaken h (fun q hq _ => by have h1 : wo.heap.size ≤ q := hq; have h2 := BO.out.size; have h3 := V3.out.lt; show q ≠ B; omega), Kept.belowOf (BW3.out.trans (BD.out.mono HBv3.out)) KX.out HB.out, (VR3.out.below BD.out).keep (KX.out.block _ (by have h := HBR.out; show wd3.heap.size ≠ B; omega))⟩
          exact AllReadyH.nil
        exact AllReadyH.nil
      exact AllReadyH.nil
    refine AllReadyH.cons rfl (fun K hK => ?_) ?_
    · go_simp
      go_at_call 9
      refine Calls.mono (octets_u v3.drew 2 2 rfl) ?_
      rintro e wo ⟨g, rfl, hro, bo⟩
      have BO : Hid (Below v3.heap.size v3 wo) := (Below.refl _ v3).drew.trans bo
      have HRO : Hid (rBytes.rd wo (fun q => v3.heap.size ≤ q) [.slice (some ⟨g, 0, none⟩) 64 64] (octL 2)) := hro
      clear hro bo
      go_simp
      refine hK.out _ _ ?_ (fun hHeld => ?_)
      · try dsimp only
        all_goals exact trivial
      clear hK K
      refine wpAnyH_takeL (i := 2) (v := ?_) rfl rfl (by kernel_rfl) (by kernel_rfl) (by kernel_rfl) (fun _ _ _ h => h) (Or.inl ⟨by rfl, ?_⟩) (by assumption) ?_
      rotate_left
      · intro w hSw
        try dsimp only at hSw
        go_simp
        all_goals with_reducible rfl
      simp only [List.set_cons_zero, List.set_cons_succ]
      refine wpAnyH_ready (rs := [0]) (by kernel_rfl) (by simp) ?_
      refine AllReadyH.cons rfl (fun K hK => ?_) ?_
      · have p0 := (V3.out.below BO.out).cell (j := 0) rfl
        have p1 := (V3.out.below BO.out).cell (j := 1) rfl
        have p2 := (V3.out.below BO.out).cell (j := 2) rfl
        go_simp
        clear p0 p1 p2
        refine hK.out _ _ ?_ (fun hHeld => ?_)
        · try dsimp only
          all_goals exact trivial
        clear hK K
        refine wpAnyH_ready (rs := [3]) (by kernel_rfl) (by simp) ?_
        refine AllReadyH.cons rfl (fun K hK => ?_) ?_
        · go_simp
          go_at_call 5
          refine Calls.mono (do_v wo (fun _ => True) a3 b3 n3 c3 m3 d3 t3 alS3 (rSta.weaken (Rep.below HR3.out BO.out) (fun _ _ _ => trivial)) 1 0 0 0 ⟨#[]⟩ (octL 2) (some ⟨g, 0, none⟩) 64 64 (by unfold I64; decide) (by unfold I64; decide) (by unfold I64; decide) (by unfold I64; decide) (by decide) HRO.out) ?_
          rintro e wd ⟨a', n', c', b', m', d', t', da, dn, dc, la, ln, lc, rfl, hrd, -, -, bd⟩
          have HRD : Hid (rSta.rd wd (fun q => wo.heap.size ≤ q) [.slice a' n' c', .slice b' m' d', .int .i64 t'] alS4) := hrd
          have BD : Hid (Below v3.heap.size v3 wd) := on BO.out bd
          have VD : Hid (Row wd B 29 [.slice a3 n3 c3, .slice b3 m3 d3, .int .i64 t3]) := V3.out.below BD.out
          clear hrd bd
          go_simp
          refine hK.out _ _ ?_ (fun hHeld => ?_)
          · try dsimp only
            all_goals exact trivial
          clear hK K
          refine wpAnyH_takeL (i := 4) (v := ?_) rfl rfl (by kernel_rfl) (by kernel_rfl) (by kernel_rfl) (fun _ _ _ h => h) (Or.inl ⟨by rfl, ?_⟩) (by assumption) ?_
          rotate_left
          · intro w hSw
            try dsimp only at hSw
            go_simp
            all_goals with_reducible rfl
          simp only [List.set_cons_zero, List.set_cons_succ]
          refine wpAnyH_takeL (i := 5) (v := ?_) rfl rfl (by kernel_rfl) (by kernel_rfl) (by kernel_rfl) (fun _ _ _ h => h) (Or.inl ⟨by rfl, ?_⟩) (by assumption) ?_
          rotate_left
          · intro w hSw
            try dsimp only at hSw
            go_simp
            all_goals with_reducible rfl
          simp only [List.set_cons_zero, List.set_cons_succ]
          refine wpAnyH_takeL (i := 6) (v := ?_) rfl rfl (by kernel_rfl) (by kernel_rfl) (by kernel_rfl) (fun _ _ _ h => h) (Or.inl ⟨by rfl, ?_⟩) (by assumption) ?_
          rotate_left
          · intro w hSw
            try dsimp only at hSw
            go_simp
            all_goals with_reducible rfl
          simp only [List.set_cons_zero, List.set_cons_succ]
          refine wpAnyH_ready (rs := [7]) (by kernel_rfl) (by simp) ?_
          refine AllReadyH.cons rfl (fun K hK => ?_) ?_
          · have p0 := VD.out.cell (j := 0) rfl
            have p1 := VD.out.cell (j := 1) rfl
            have p2 := VD.out.cell (j := 2) rfl
            have f0 := VD.out.frozen 0
            have f1 := VD.out.frozen 1
            have f2 := VD.out.frozen 2
            obtain ⟨wX, hwX, VX', KX'⟩ := VD.out.whole3 (.slice a' n' c') (.slice b' m' d') (.int .i64 t')
            have VX : Hid _ := VX'
            have KX : Hid _ := KX'
            clear VX' KX'
            go_simp
            clear p0 p1 p2 f0 f1 f2
            refine hK.out _ _ ?_ (fun hHeld => ?_)
            · try dsimp only
              all_goals exact trivial
            clear hK K
            refine wpAnyH_done (by kernel_rfl) ?_ _
            clear hHeld
            go_wp2_with fail
            go_meet
            exact ⟨a', n', c', b', m', d', t', VX, Rep.kept HRD.out KX.out (fun q hq _ => by have h1 : wo.heap.size ≤ q := hq; have h2 := BO.out.size; have h3 := V3.out.lt; show q ≠ B; omega) |> fun h => rSta.weaken h (fun q hq _ => by have h1 : wo.heap.size ≤ q := hq; have h2 := BO.out.size; have h3 := V3.out.lt; show q ≠ B; omega), Kept.belowOf (BW3.out.trans (BD.out.mono HBv3.out)) KX.out HB.out, (VR3.out.below BD.out).keep (KX.out.block _ (by have h := HBR.out; show wd3.heap.size ≠ B; omega))⟩
          exact AllReadyH.nil
        exact AllReadyH.nil
      exact AllReadyH.nil
    exact AllReadyH.nil
  obtain ⟨a4, n4, c4, b4, m4, d4, t4, V4, HR4, BW4, VR4⟩ := hcut
  obtain ⟨v4, hv4⟩ : ∃ v, v = wc := ⟨_, rfl⟩
  subst hv4
  have HBv4 : Hid (w.heap.size ≤ v4.heap.size) := BW4.out.size
  clear V3 HR3 BW3 HBv3
  have p0 := V4.out.cell (j := 0) rfl
  have p1 := V4.out.cell (j := 1) rfl
  have p2 := V4.out.cell (j := 2) rfl
  go_wp2_with fail
  go_at_call 5
  refine Calls.mono (do_v v4 (fun _ => True) a4 b4 n4 c4 m4 d4 t4 alS4 (rSta.weaken HR4.out (fun _ _ _ => trivial)) 6 0 0 1 ⟨#[]⟩ [] none 0 0 (by unfold I64; decide) (by unfold I64; decide) (by unfold I64; decide) (by unfold I64; decide) (by decide) (P' := fun _ => True) (rBytes_none _ _ _ _ (fun _ => rfl))) ?_
  rintro e wd ⟨a5, n5, c5, b5, m5, d5, t5, da, dn, dc, la, ln, lc, rfl, hrd, -, -, bd⟩
  have HRD : Hid (rSta.rd wd (fun q => v4.heap.size ≤ q) [.slice a5 n5 c5, .slice b5 m5 d5, .int .i64 t5] alS5) := hrd
  have BD : Hid (Below v4.heap.size v4 wd) := bd
  have VD : Hid (Row wd B 29 [.slice a4 n4 c4, .slice b4 m4 d4, .int .i64 t4]) := V4.out.below bd
  clear hrd bd p0 p1 p2
  have VRD := VR4.out.below BD.out
  have p0 := VD.out.cell (j := 0) rfl
  have p1 := VD.out.cell (j := 1) rfl
  have p2 := VD.out.cell (j := 2) rfl
  have f0 := VD.out.frozen 0
  have f1 := VD.out.frozen 1
  have f2 := VD.out.frozen 2
  obtain ⟨v5, hv5, V5', K5⟩ := VD.out.whole3 (.slice a5 n5 c5) (.slice b5 m5 d5) (.int .i64 t5)
  have V5 : Hid _ := V5'
  have HR5 : Hid (rSta.rd v5 (· ≠ B) [.slice a5 n5 c5, .slice b5 m5 d5, .int .i64 t5] alS5) := rSta.weaken (Rep.kept HRD.out K5 (fun q hq _ => by have h1 : v4.heap.size ≤ q := hq; have h2 := V4.out.lt; show q ≠ B; omega)) (fun q hq _ => by have h1 : v4.heap.size ≤ q := hq; have h2 := V4.out.lt; show q ≠ B; omega)
  have BW5 : Hid (Below w.heap.size w v5) := Kept.belowOf (BW4.out.trans (BD.out.mono HBv4.out)) K5 HB.out
  have HBv5 : Hid (w.heap.size ≤ v5.heap.size) := BW5.out.size
  have VR5 : Hid (Row v5 wd3.heap.size 34 [.int .i64 z0, .slice dz dzn dzc, .int .i64 1, .slice lz lzn lzc, .int .i64 z1]) := VRD.keep (K5.block _ (by have h := HBR.out; show wd3.heap.size ≠ B; omega))
  clear VRD V5' K5 HRD BD VD V4 HR4 BW4 HBv4 VR4
  have q0 := V5.out.cell (j := 0) rfl
  have q1 := V5.out.cell (j := 1) rfl
  have q2 := V5.out.cell (j := 2) rfl
  go_wp2_with fail
  go_at_call 5
  refine Calls.mono (do_v v5 (fun _ => True) a5 b5 n5 c5 m5 d5 t5 alS5 (rSta.weaken HR5.out (fun _ _ _ => trivial)) 2 0 1 0 ⟨#[]⟩ [] none 0 0 (by unfold I64; decide) (by unfold I64; decide) (by unfold I64; decide) (by unfold I64; decide) (by decide) (P' := fun _ => True) (rBytes_none _ _ _ _ (fun _ => rfl))) ?_
  rintro e wd ⟨a', n', c', b', m', d', t', da, dn, dc, la, ln, lc, rfl, hrd, hdd, -, bd⟩
  have HRD : Hid (rSta.rd wd (fun q => v5.heap.size ≤ q) [.slice a' n' c', .slice b' m' d', .int .i64 t'] (Mo.doS alS5 (2, 0, 1, 0, ⟨#[]⟩, []))) := hrd
  have HDD : Hid _ := hdd
  have BD : Hid (Below v5.heap.size v5 wd) := bd
  have VD : Hid (Row wd B 29 [.slice a5 n5 c5, .slice b5 m5 d5, .int .i64 t5]) := V5.out.below bd
  clear hrd hdd bd p0 p1 p2 f0 f1 f2 q0 q1 q2
  have HDe : Hid (rBytes.rd wd (fun q => v5.heap.size ≤ q) [.slice da dn dc] (octL 1)) := by have h := HDD.out; rw [show (Mo.doR alS5 (2, 0, 1, 0, ⟨#[]⟩, [])).2.1 = octL 1 from al_R6] at h; exact h
  obtain ⟨x0, hx0⟩ : ∃ z, z = (Mo.doR alS5 (2, 0, 1, 0, ⟨#[]⟩, [])).1 := ⟨_, rfl⟩
  obtain ⟨x1, hx1⟩ : ∃ z, z = (Mo.doR alS5 (2, 0, 1, 0, ⟨#[]⟩, [])).2.2.1 := ⟨_, rfl⟩
  obtain ⟨x2, hx2⟩ : ∃ z, z = (Mo.doR alS5 (2, 0, 1, 0, ⟨#[]⟩, [])).2.2.2.2 := ⟨_, rfl⟩
  rw [← hx0, ← hx1, ← hx2]
  clear hx0 hx1 hx2 HDD
  obtain ⟨wA, wB, wX, v6, hwA, hwB, va, hwX, vr, hv6, V6', VR', K6, hlA⟩ := fresh2 wd (.slice a' n' c') (.slice b' m' d') (.int .i64 t') (.int .i64 x0) (.slice da dn dc) (.int .i64 x1) (.slice la ln lc) (.int .i64 x2)
  have p0 := va.cell (j := 0) rfl
  have p1 := va.cell (j := 1) rfl
  have p2 := va.cell (j := 2) rfl
  have f0 := va.frozen 0
  have f1 := va.frozen 1
  have f2 := va.frozen 2
  have r0 := vr.cell (j := 0) rfl
  have r1 := vr.cell (j := 1) rfl
  have r2 := vr.cell (j := 2) rfl
  have r3 := vr.cell (j := 3) rfl
  have r4 := vr.cell (j := 4) rfl
  have g0 := vr.frozen 0
  have g1 := vr.frozen 1
  have g2 := vr.frozen 2
  have g3 := vr.frozen 3
  have g4 := vr.frozen 4
  have VQ : Hid _ := VR'
  have VR6 : Hid (Row v6 wd3.heap.size 34 [.int .i64 z0, .slice dz dzn dzc, .int .i64 1, .slice lz lzn lzc, .int .i64 z1]) := VR5.out.below (BD.out.trans (K6.mono BD.out.size))
  have HD6 : Hid (rBytes.rd v6 (fun q => v5.heap.size ≤ q) [.slice da dn dc] (octL 1)) := Rep.below HDe.out K6
  have BW6 : Hid (Below w.heap.size w v6) := BW5.out.trans ((BD.out.trans (K6.mono BD.out.size)).mono HBv5.out)
  clear va vr V6' VR' K6 hlA HRD BD VD V5 HR5 BW5 HBv5 VR5 HDe
  go_wp2_with fail
  clear p0 p1 p2 f0 f1 f2 r0 r1 r2 r3 r4 g0 g1 g2 g3 g4
  have HSee : Hid (∀ w', Below v6.heap.size v6 w' → w'.cell? ⟨wd3.heap.size, 2, none⟩ = some (.int .i64 1) ∧ w'.cell? ⟨wA.heap.size, 1, none⟩ = some (.slice da dn dc) ∧ rBytes.rd w' (fun _ => True) [.slice da dn dc] (octL 1)) := fun w' hb => ⟨(VR6.out.below hb).cell (j := 2) rfl, (VQ.out.below hb).cell (j := 1) rfl, rBytes.weaken (Rep.below HD6.out hb) (fun _ _ _ => trivial)⟩
  refine wp_region_held_drew (S := (fun w' : World => w'.cell? ⟨wd3.heap.size, 2, none⟩ = some (.int .i64 1) ∧ w'.cell? ⟨wA.heap.size, 1, none⟩ = some (.slice da dn dc) ∧ rBytes.rd w' (fun _ => True) [.slice da dn dc] (octL 1))) (by kernel_rfl) (HSee.out _ (Below.refl _ v6).drew) (fun hHeld => ?_)
  refine wpAnyH_takeL (i := 0) (v := ?_) rfl rfl (by kernel_rfl) (by kernel_rfl) (by kernel_rfl) (fun _ _ _ h => h) (Or.inl ⟨by rfl, ?_⟩) (by assumption) ?_
  rotate_left
  · intro w hSw
    try dsimp only at hSw
    go_simp
    all_goals with_reducible rfl
  simp only [List.set_cons_zero, List.set_cons_succ]
  refine wpAnyH_ready (rs := [1]) (by kernel_rfl) (by simp) ?_
  refine AllReadyH.cons rfl (fun K hK => ?_) ?_
  · go_simp
    go_at_call 7
    refine (num10_u _ _).mono ?_
    rintro e w9 ⟨rfl, rfl⟩
    go_simp
    refine hK.out _ _ ?_ (fun hHeld => ?_)
    · try dsimp only
      first | exact SO | exact HSee.out _ (Below.refl _ v6).drew
    clear hK K
    refine wpAnyH_takeL (i := 2) (v := ?_) rfl rfl (by kernel_rfl) (by kernel_rfl) (by kernel_rfl) (fun _ _ _ h => h) (Or.inl ⟨by rfl, ?_⟩) (by assumption) ?_
    rotate_left
    · intro w hSw
      try dsimp only at hSw
      go_simp
      all_goals with_reducible rfl
    simp only [List.set_cons_zero, List.set_cons_succ]
    refine wpAnyH_takeL (i := 3) (v := ?_) rfl rfl (by kernel_rfl) (by kernel_rfl) (by kernel_rfl) (fun _ _ _ h => h) (Or.inl ⟨by rfl, ?_⟩) (by assumption) ?_
    rotate_left
    · intro w hSw
      try dsimp only at hSw
      go_simp
      all_goals with_reducible rfl
    simp only [List.set_cons_zero, List.set_cons_succ]
    refine wpAnyH_takeL (i := 4) (v := ?_) rfl rfl (by kernel_rfl) (by kernel_rfl) (by kernel_rfl) (fun _ _ _ h => h) (Or.inl ⟨by rfl, ?_⟩) (by assumption) ?_
    rotate_left
    · intro w hSw
      try dsimp only at hSw
      go_simp
      all_goals with_reducible rfl
    simp only [List.set_cons_zero, List.set_cons_succ]
    refine wpAnyH_takeL (i := 5) (v := ?_) rfl rfl (by kernel_rfl) (by kernel_rfl) (by kernel_rfl) (fun _ _ _ h => h) (Or.inl ⟨by rfl, ?_⟩) (by assumption) ?_
    rotate_left
    · intro w hSw
      try dsimp only at hSw
      go_simp
      all_goals with_reducible rfl
    simp only [List.set_cons_zero, List.set_cons_succ]
    refine wpAnyH_takeL (i := 6) (v := ?_) rfl rfl (by kernel_rfl) (by kernel_rfl) (by kernel_rfl) (fun _ _ _ h => h) (Or.inl ⟨by rfl, ?_⟩) (by assumption) ?_
    rotate_left
    · intro w hSw
      try dsimp only at hSw
      go_simp
      all_goals with_reducible rfl
    simp only [List.set_cons_zero, List.set_cons_succ]
    refine wpAnyH_takeL (i := 7) (v := ?_) rfl rfl (by kernel_rfl) (by kernel_rfl) (by kernel_rfl) (fun _ _ _ h => h) (Or.inl ⟨by rfl, ?_⟩) (by assumption) ?_
    rotate_left
    · intro w hSw
      try dsimp only at hSw
      go_simp
      all_goals with_reducible rfl
    simp only [List.set_cons_zero, List.set_cons_succ]
    refine wpAnyH_takeL (i := 8) (v := ?_) rfl rfl (by kernel_rfl) (by kernel_rfl) (by kernel_rfl) (fun _ _ _ h => h) (Or.inl ⟨by rfl, ?_⟩) (by assumption) ?_
    rotate_left
    · intro w hSw
      try dsimp only at hSw
      go_simp
      all_goals with_reducible rfl
    simp only [List.set_cons_zero, List.set_cons_succ]
    refine wpAnyH_takeL (i := 9) (v := ?_) rfl rfl (by kernel_rfl) (by kernel_rfl) (by kernel_rfl) (fun _ _ _ h => h) (Or.inl ⟨by rfl, ?_⟩) (by assumption) ?_
    rotate_left
    · intro w hSw
      try dsimp only at hSw
      go_simp
      all_goals with_reducible rfl
    simp only [List.set_cons_zero, List.set_cons_succ]
    refine wpAnyH_takeL (i := 10) (v := ?_) rfl rfl (by kernel_rfl) (by kernel_rfl) (by kernel_rfl) (fun _ _ _ h => h) (Or.inl ⟨by rfl, ?_⟩) (by assumption) ?_
    rotate_left
    · intro w hSw
      try dsimp only at hSw
      go_simp
      all_goals with_reducible rfl
    simp only [List.set_cons_zero, List.set_cons_succ]
    refine wpAnyH_takeL (i := 11) (v := ?_) rfl rfl (by kernel_rfl) (by kernel_rfl) (by kernel_rfl) (fun _ _ _ h => h) (Or.inl ⟨by rfl, ?_⟩) (by assumption) ?_
    rotate_left
    · intro w hSw
      have e1 := conv_bytes w da dn dc _ (rBytes_isB hSw.2.2).1
      try dsimp only at hSw
      go_simp
      all_goals with_reducible rfl
    simp only [List.set_cons_zero, List.set_cons_succ]
    refine wpAnyH_ready (rs := [12]) (by kernel_rfl) (by simp) ?_
    refine AllReadyH.cons rfl (fun K hK => ?_) ?_
    · go_simp
      go_at_call 9
      refine Calls.mono (octets_u v6.drew 1 1 rfl) ?_
      rintro e wo ⟨g, rfl, hro, bo⟩
      have BO : Hid (Below v6.heap.size v6 wo) := (Below.refl _ v6).drew.trans bo
      have HRO : Hid (rBytes.rd wo (fun q => v6.heap.size ≤ q) [.slice (some ⟨g, 0, none⟩) 64 64] (octL 1)) := hro
      have SO := HSee.out _ BO.out
      clear hro bo
      go_simp
      refine hK.out _ _ ?_ (fun hHeld => ?_)
      · try dsimp only
        first | exact SO | exact HSee.out _ (Below.refl _ v6).drew
      clear hK K
      refine wpAnyH_ready (rs := [13]) (by kernel_rfl) (by simp) ?_
      refine AllReadyH.cons rfl (fun K hK => ?_) ?_
      · have e1 := conv_bytes wo (some ⟨g, 0, none⟩) 64 64 _ (rBytes_isB HRO.out).1
        go_simp
        refine hK.out _ _ ?_ (fun hHeld => ?_)
        · try dsimp only
          first | exact SO | exact HSee.out _ (Below.refl _ v6).drew
        clear hK K
        refine wpAnyH_takeL (i := 14) (v := ?_) rfl rfl (by kernel_rfl) (by kernel_rfl) (by kernel_rfl) (fun _ _ _ h => h) (Or.inl ⟨by rfl, ?_⟩) (by assumption) ?_
        rotate_left
        · intro w hSw
          try dsimp only at hSw
          go_simp
          all_goals with_reducible rfl
        simp only [List.set_cons_zero, List.set_cons_succ]
        refine wpAnyH_takeL (i := 15) (v := ?_) rfl rfl (by kernel_rfl) (by kernel_rfl) (by kernel_rfl) (fun _ _ _ h => h) (Or.inl ⟨by rfl, ?_⟩) (by assumption) ?_
        rotate_left
        · intro w hSw
          try dsimp only at hSw
          go_simp
          all_goals with_reducible rfl
        simp only [List.set_cons_zero, List.set_cons_succ]
        refine wpAnyH_takeL (i := 16) (v := ?_) rfl rfl (by kernel_rfl) (by kernel_rfl) (by kernel_rfl) (fun _ _ _ h => h) (Or.inl ⟨by rfl, ?_⟩) (by assumption) ?_
        rotate_left
        · intro w hSw
          try dsimp only at hSw
          go_simp
          all_goals with_reducible rfl
        simp only [List.set_cons_zero]
        refine wpAnyH_done (by kernel_rfl) ?_ _
        clear hHeld SO e1
        go_wp2_with fail
        go_ret
        exact ⟨rfl, BW6.out.trans (BO.out.mono BW6.out.size)⟩
      exact AllReadyH.nil
    exact AllReadyH.nil
  exact AllReadyH.nil
end Go.Proofs.Ytflcojljpbojlab
namespace Go.Proofs.Ytflcojljpbojlab
open Go.RowKit
set_option linter.unusedVariables false
theorem OwnsQ.low {α : Type} {A : Rep α} {e : TypeId} {w : World} {base base' : Nat} {Q : Nat → Prop} {v : Value} {l : List α} (h : OwnsQ A e w base Q v l) (hb : base' ≤ base) : OwnsQ A e w base' Q v l := by
  obtain ⟨xs, h1, h2⟩ := h
  exact ⟨xs, owns_mono h1 hb, h2⟩
theorem OwnsQ.keepK {α : Type} {A : Rep α} {e : TypeId} {w w' : World} {base : Nat} {Q S : Nat → Prop} {v : Value} {l : List α} (h : OwnsQ A e w base Q v l) (k : Kept S w w') (hQ : ∀ b, Q b → S b) (hr : ∀ b, v.ownBlock = some b → S b) : OwnsQ A e w' base Q v l := by
  obtain ⟨xs, h1, h2⟩ := h
  exact ⟨xs, owns_kept h1 (fun b hb _ _ => k.block b (hr b hb)), rdAll_keep (fun b hb _ => k.block b (hQ b hb.1)) h2⟩
theorem OwnsQ.bounded {α : Type} {A : Rep α} {e : TypeId} {w : World} {base : Nat} {Q : Nat → Prop} {v : Value} {l : List α} (h : OwnsQ A e w base Q v l) : OwnsQ A e w base (fun b => Q b ∧ b < w.heap.size) v l := by
  obtain ⟨xs, h1, h2⟩ := h
  exact ⟨xs, h1, rdAll_weaken (fun b hb hl => ⟨⟨hb.1, hl⟩, hb.2⟩) h2⟩
theorem snp_newT (w : World) (id : Int) (nm : ByteArray) (v : Value) (t : TypeId) : ∀ j u, ([.int .i64 id, .string nm, v] : List Value)[j]? = some u → (w.alloc (.cells #[.int .i64 id, .string nm, v] t)).cell? ((⟨w.heap.size, 0, none⟩ : Addr).add j) = some u := snp_new w id nm v t
end Go.Proofs.Ytflcojljpbojlab
namespace Go.Proofs.Ytflcojljpbojlab
open Go.RowKit
set_option linter.unusedVariables false
theorem elem_frees : ElemOf Try.prog 22 31 rFree := elemOf (z := .slice none 0 0) Try.underlying22 (by kernel_rfl) rfl rfl rfl (by decide)
theorem rFree_owned {w : World} {base n c : Nat} {a : Option Addr} {l : List UInt8} (h : w.ownsRow base 5 1 (.slice a n c) n (cellsOf l)) (hn : n ≤ 140737488351232) : rFree.rd w (fun b => base ≤ b) [.slice a n c] l := by
  refine ⟨rBytes_owned h hn, fun a' n' c' e x hx j hj => ?_⟩
  simp only [List.cons.injEq, Value.slice.injEq, and_true] at e
  obtain ⟨rfl, rfl, rfl⟩ := e
  rcases h.2 with ⟨e1, e2⟩ | ⟨g, cap, cur, e1, e2, e3, _⟩
  · omega
  · simp only [Value.slice.injEq] at e1
    obtain ⟨rfl, _, rfl⟩ := e1
    cases hx
    rw [Addr.add_lit]
    simp [World.frozen?, e3]
theorem copy_f (w : World) (P : Nat → Prop) (a : Option Addr) (n c : Nat) (l : List UInt8) (h : rBytes.rd w P [.slice a n c] l) :
    Calls Try.prog 30 #[.slice a n c] w fun e w' => ∃ b d, e = .returned (.slice b n d) ∧ rFree.rd w' (fun k => w.heap.size ≤ k) [.slice b n d] l ∧ Below w.heap.size w w' := by
  obtain ⟨h1, h2, h3, h4⟩ := rBytes_isB h
  refine (copy_u w a n c l (by omega) h3 h1).mono ?_
  rintro e w' ⟨b, d, rfl, ho, hb⟩
  exact ⟨b, d, rfl, rFree_owned ho h4, hb⟩
set_option maxRecDepth 20000 in
set_option maxHeartbeats 800000 in
theorem copyList_o (w : World) (P : Nat → Prop) (a : Option Addr) (n c : Nat) (L : List (List UInt8)) (h : rSectors.rd w P [.slice a n c] L) :
    Calls Try.prog 15 #[.slice a n c] w fun e w' => ∃ v, e = .returned v ∧ Owns rFree 31 w' w.heap.size v L ∧ Below w.heap.size w w' := by
  have hl : L.length = n ∧ n ≤ 5864062014634 := by
    obtain ⟨a', n', c', e, h1, _, _, h4, _⟩ := h
    simp only [List.cons.injEq, Value.slice.injEq, and_true] at e
    obtain ⟨rfl, rfl, rfl⟩ := e
    have h5 : n * 24 ≤ 140737488351232 := h4
    exact ⟨h1, by omega⟩
  obtain ⟨hn, hn2⟩ := hl
  have HN : Hid _ := hn
  clear hn
  have H0 : Owns rFree 31 w w.heap.size (.slice none 0 0) (L.take 0) := by rw [List.take_zero]; exact Owns.nil _ _ _ _
  go_enter Try.func15, Try.ntmps15
  go_wp2
  go_loopw [3, 4] (fun s i wr => ∃ (k : Nat) (M : List (List UInt8)), k ≤ n ∧ i = .int .i64 k ∧ M.length = k ∧ Hid (M = L.take k) ∧ Hid (Owns rFree 31 wr w.heap.size s M) ∧ Below w.heap.size w wr) (fun _ i _ => n - (intOf i).toNat)
  case atStart => exact ⟨0, _, Nat.zero_le _, rfl, by simp, rfl, H0, Below.refl _ _⟩
  case round =>
    obtain ⟨k, M, hk, rfl, hml, HMk, O, bel⟩ := hrel
    clear H0
    by_cases hlt : k < n
    · have hAr := Rep.below h bel
      obtain ⟨g, off, rfl, -, hgl, hat⟩ := rLists_at hAr (by omega)
      have hkl : k < L.length := by rw [HN.out]; exact hlt
      obtain ⟨x, l, e, hx, hl, hcell⟩ := hat k hkl
      have HNX : Hid (M ++ [L[k]] = L.take (k + 1)) := by unfold Hid; rw [HMk.out, List.take_succ_eq_append_getElem hkl]
      have hz : w.heap.size ≤ wr.heap.size := bel.size
      have hok : Hid ((k + 1) * 24 ≤ 140737488355328 ∧ k + 1 ≤ maxLen) := ⟨by omega, by unfold maxLen; omega⟩
      clear hat hl hAr
      generalize L[k] = X at *
      go_wp2_with (first
        | (go_at_call 30
           refine (copy_f _ _ x l e _ hx).mono ?_
           rintro e w5 ⟨b5, d5, rfl, hr5, bb5⟩
           have hz5 : w.heap.size ≤ (w5.alloc (.cells #[.slice b5 l d5] 31)).heap.size := by have := bb5.size; simp only [World.size_alloc]; omega)
        | (at_builtin
           (refine append_rep elem_frees rfl _ _ rfl w.heap.size _ M rfl ((O.out.below bb5).below ((Below.refl _ _).alloc (Nat.le_refl _) _)) ⟨w5.heap.size, 0, none⟩ [.slice b5 l d5] X rfl (cell_one_new _ _ _) (O.out.elem hz hr5 (fun b hb => hb) _) (by rw [hml]; exact hok.out.1) (by rw [hml]; exact hok.out.2) hz5 ?_; intro b6 d6 w6 ho6 g6; rw [hml] at ho6)))
      go_roundw
      case rel => exact ⟨k + 1, M ++ [X], by omega, by go_num, by simp [hml], HNX, ho6, ((on bel bb5).alloc (by have := bb5.size; omega) _).grown g6 hz5 (fun k hk => (O.out.row k hk).1)⟩
      case measure => simp [intOf]; omega
    · obtain rfl : k = n := by omega
      go_wp2
      go_ret
      rw [List.take_of_length_le (by rw [HN.out]; exact Nat.le_refl _)] at HMk
      rw [HMk.out] at O
      exact ⟨_, rfl, O.out, bel⟩
theorem copyList_f (w : World) (P : Nat → Prop) (a : Option Addr) (n c : Nat) (L : List (List UInt8)) (h : rSectors.rd w P [.slice a n c] L) :
    Calls Try.prog 15 #[.slice a n c] w fun e w' => ∃ b d, e = .returned (.slice b n d) ∧ rFrees.rd w' (fun k => w.heap.size ≤ k) [.slice b n d] L ∧ Below w.heap.size w w' := by
  refine Calls.mono (copyList_o w P a n c L h) ?_
  rintro e w' ⟨v, rfl, O, bel⟩
  have hl := (rL_len h).1
  have hb := (rL_len h).2.2.2
  obtain ⟨a', c', e1, e2⟩ := Owns.rd (hs := by decide) O (by rw [hl]; exact hb)
  rw [hl] at e1 e2
  exact ⟨a', c', by rw [e1], e2, bel⟩
end Go.Proofs.Ytflcojljpbojlab
