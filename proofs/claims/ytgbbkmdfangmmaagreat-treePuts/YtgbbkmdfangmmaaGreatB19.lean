/-
  Facts that the proof rests on, part 20. Conditions: those that each of them names.
-/
import Derived.Deep.RegionHeldLaw
import Derived.Test.YtgbbkmdfangmmaaGreatB10
import Derived.Test.YtgbbkmdfangmmaaGreatB15
import Derived.Test.YtgbbkmdfangmmaaGreatB18
namespace Go.Proofs.YtgbbkmdfangmmaaGreat
set_option maxRecDepth 20000
open Go.RowKit
set_option linter.unusedVariables false
attribute [local go_sem] Oper.semAt_some
set_option maxHeartbeats 4000000 in
theorem chg_right {T : List Itm → List Itm} {key : UInt64} {f : Nat} {bs : Array Value} {B : Nat} {J : World → Prop} (hT : Turner T f bs B J) (w : World) (g base : Nat) (v : Value) (s : Pgs) (hW : Wr w g base v s (.int .u64 (key.toNat : Int)) (.func (.func f) #[] bs)) (hJ : J w) (hB : B ≤ g ∧ B ≤ base) (fr : UInt64) (p : Int) (hp1 : 1 ≤ p) (hp2 : p ≤ 2049) (nd : Nod) (hnd : Tr.nodeE s p = .ok nd) (s1 : Pgs) (now : Cnt) (hk : nd.2 ≠ []) (kid : Brn) (hkid : (Tr.contOf nd fr).2.getD (Lf.way nd key) (0, 0) = kid) (hrec : ∀ W, Below w.heap.size w W → Calls Tryz.prog 82 #[.pointer (some ⟨g, 0, none⟩), .agg #[.int .u64 (kid.1.toNat : Int), .int .i64 kid.2]] W fun e w' => ChgDone (.ok (s1, now)) g base v (.int .u64 (key.toNat : Int)) (.func (.func f) #[] bs) W e w') (hfew : Tr.csize now ≤ 6) (hpn : Tr.PagesIn now.2) (h2 : ¬ 2 ≤ Tr.csize now) (hI : Lf.way nd key = 0) (sib : Brn) (hsib : (Tr.contOf nd fr).2.getD 1 (0, 0) = sib) (n2 : Nod) (hn2 : Tr.nodeE s1 sib.2 = .ok n2) :
 Calls Tryz.prog 82 #[.pointer (some ⟨g, 0, none⟩), .agg #[.int .u64 (fr.toNat : Int), .int .i64 p]] w fun e w' => ChgDone (Tr.layR s1 (Tr.joined now (Tr.contOf n2 sib.1)) (Tr.contOf nd fr).2 (0) (2)) g base v (.int .u64 (key.toNat : Int)) (.func (.func f) #[] bs) w e w' := by
 have HKn : Hid (nd.2 ≠ []) := hk
 have HKid : Hid _ := hkid
 have HRec : Hid _ := hrec
 have HFew : Hid (Tr.csize now ≤ 6) := hfew
 have HPn : Hid (Tr.PagesIn now.2) := hpn
 clear hk hkid hrec hfew hpn
 have HSm : Hid (¬ 2 ≤ Tr.csize now) := h2
 have HI0 : Hid _ := hI
 have HSib : Hid _ := hsib
 have HN2 : Hid (Tr.nodeE s1 sib.2 = .ok n2) := hn2
 have HOk2 : Hid (Lf.Ok n2) := Tr.nodeE_ok hn2
 clear h2 hI hsib hn2
 obtain ⟨pa, pc, rfl, hpl, hpn⟩ := hW.pgs.slice
 obtain ⟨w1, hw1, V1, b1, z1⟩ := boxedRow w 149 [.int .u64 (fr.toNat : Int), .int .i64 p]
 obtain ⟨w2, hw2, V2r, b2, z2⟩ := boxedRow w1 129 [.slice none 0 0, .slice none 0 0]
 have HT : Hid _ := hT
 have B2 : Hid (Below w.heap.size w w2) := on b1 b2
 have V2 : Hid _ := V2r
 have V1b : Hid (Row w2 w.heap.size 149 [.int .u64 (fr.toNat : Int), .int .i64 p]) := V1.below b2
 have W2 : Hid (Wr w2 g base (.slice pa s.length pc) s (.int .u64 (key.toNat : Int)) (.func (.func f) #[] bs)) := hW.below B2.out
 have HW0 : Hid _ := hW
 have HZ : Hid (w1.heap.size = w.heap.size + 1) := z1
 have HZ2 : Hid (w2.heap.size = w.heap.size + 2) := by unfold Hid; omega
 have HOk : Hid (Lf.Ok nd) := Tr.nodeE_ok hnd
 have HNd : Hid (Tr.nodeE s p = .ok nd) := hnd
 have HJ0 : Hid (J w) := hJ
 have HB : Hid (B ≤ g ∧ B ≤ base) := hB
 have HGw : Hid (g < w.heap.size) := hW.row.lt
 have HSee : Hid (∀ W', Below w2.heap.size w2 W' → W'.cell? ⟨g, 0, none⟩ = some (.slice pa s.length pc) ∧ W'.cell? ⟨w.heap.size, 1, none⟩ = some (.int .i64 p)) := by
  intro W' b'
  exact ⟨(W2.out.row.below b').cell (j := 0) rfl, (V1b.out.below b').cell (j := 1) rfl⟩
 have HRd : Hid (∀ W', Below w2.heap.size w2 W' → rSectors.rd W' (fun b => base ≤ b) [.slice pa s.length pc] s) := fun W' b' => Rep.below (W2.out.pgs.rd hW.few) b'
 have h0 : -9223372036854775808 ≤ p := by omega
 have h1 : p ≤ 9223372036854775807 := by omega
 clear hW hpl hpn V1 V2r b1 b2 z1 z2 hT hnd hJ hB hp1 hp2
 go_enter Tryz.func82, Tryz.ntmps82
 go_wp2_with fail
 go_cut [5] (fun t wx => ∃ nb ia il ic ka kl kc, t = .pointer (some ⟨nb, 0, none⟩) ∧ Hid (w2.heap.size ≤ nb) ∧ Hid (Row wx nb 88 [.slice ia il ic, .slice ka kl kc]) ∧ Hid (OwnI 29 wx w2.heap.size (.slice ia il ic) nd.1) ∧ Hid (OwnK 3 wx w2.heap.size (.slice ka kl kc) nd.2) ∧ Hid (Below w2.heap.size w2 wx))
 case first =>
  refine wp_region_held_drew (S := (fun w' : World => w'.cell? ⟨g, 0, none⟩ = some (.slice pa s.length pc) ∧ w'.cell? ⟨w.heap.size, 1, none⟩ = some (.int .i64 p))) (by kernel_rfl) (HSee.out _ (Below.refl _ _).drew) (fun hH => ?_)
  refine tkL 0 ?_ rfl rfl (Or.inl ⟨by rfl, ?_⟩) ?_; rotate_left
  · intro w h; (try dsimp only at h); go_simp; all_goals with_reducible rfl
  simp only [sz, ss]
  refine tkL 1 ?_ rfl rfl (Or.inl ⟨by rfl, ?_⟩) ?_; rotate_left
  · intro w h; (try dsimp only at h); go_simp; all_goals with_reducible rfl
  simp only [sz, ss]
  refine tkL 2 ?_ rfl rfl (Or.inl ⟨by rfl, ?_⟩) ?_; rotate_left
  · intro w h; (try dsimp only at h); go_simp; all_goals with_reducible rfl
  simp only [sz, ss]
  refine tkL 3 ?_ rfl rfl (Or.inl ⟨by rfl, ?_⟩) ?_; rotate_left
  · intro w h; (try dsimp only at h); go_simp; all_goals with_reducible rfl
  simp only [sz, ss]
  refine tkL 4 ?_ rfl rfl (Or.inl ⟨by rfl, ?_⟩) ?_; rotate_left
  · intro w h; (try dsimp only at h); go_simp; all_goals with_reducible rfl
  simp only [sz, ss]
  refine tkL 5 ?_ rfl rfl (Or.inl ⟨by rfl, ?_⟩) ?_; rotate_left
  · intro w h; (try dsimp only at h); go_simp; all_goals with_reducible rfl
  simp only [sz, ss]
  refine wpAnyH_ready (rs := [6, 7]) (by kernel_rfl) (by simp) ?_
  refine AllReadyH.cons rfl (fun K hK => ?_) ?_
  · go_simp
    go_at_call 85
    refine Calls.mono (nodeT_u _ _ pa pc s (HRd.out _ ((Below.refl _ _).drew)) p h0 h1) ?_
    rintro e w3 ⟨hb3, hok, -⟩
    have b3 : Below w2.heap.size w2 w3 := on ((Below.refl _ _).drew) hb3
    obtain ⟨ia, il, ic, ka, kl, kc, rfl, hI3, hK3⟩ := hok nd HNd.out
    have HB3 : Hid _ := b3
    have HI3 : Hid _ := hI3
    have HK3 : Hid _ := hK3
    clear hok hI3 hK3 b3 hb3
    go_simp
    refine hK.out _ _ ?_ (fun hH => ?_)
    · try dsimp only
      exact HSee.out _ HB3.out
    clear hK K
    refine wpAnyH_ready (rs := [7]) (by kernel_rfl) (by simp) ?_
    refine AllReadyH.cons rfl (fun K hK => ?_) ?_
    · go_simp
      refine hK.out _ _ ?_ (fun hH => ?_)
      · try dsimp only
        exact HSee.out _ (below_alloc0 HB3.out _)
      clear hK K
      refine wpAnyH_ready (rs := [8]) (by kernel_rfl) (by simp) ?_
      refine AllReadyH.cons rfl (fun K hK => ?_) ?_
      · go_simp
        refine hK.out _ _ ?_ (fun hH => ?_)
        · try dsimp only
          exact HSee.out _ (below_alloc0 HB3.out _)
        clear hK K
        refine wpAnyH_done (by kernel_rfl) ?_ _
        clear hH
        go_wp2_with fail
        go_meet
        exact ⟨w3.heap.size, ia, il, ic, ka, kl, kc, rfl, HB3.out.size, row_new _ _ _, HI3.out.below ((Below.refl _ w3).alloc (Nat.le_refl _) _), HK3.out.below ((Below.refl _ w3).alloc (Nat.le_refl _) _), below_alloc0 HB3.out _⟩
      exact AllReadyH.nil
    exact AllReadyH.nil
  refine AllReadyH.cons rfl (fun K hK => ?_) ?_
  · have BZ : Hid (Below w2.heap.size w2 (w2.alloc (.cells #[.slice none 0 0, .slice none 0 0] 88)).drew) := ((Below.refl _ w2).alloc (Nat.le_refl _) _).drew
    have VZ : Hid (Row (w2.alloc (.cells #[.slice none 0 0, .slice none 0 0] 88)).drew w2.heap.size 88 [.slice none 0 0, .slice none 0 0]) := (row_new w2 _ _).keep rfl
    obtain ⟨wZ, hwZ⟩ : ∃ wZ, wZ = (w2.alloc (.cells #[.slice none 0 0, .slice none 0 0] 88)).drew := ⟨_, rfl⟩
    rw [← hwZ] at BZ VZ
    go_simp
    rw [← hwZ]
    clear hwZ
    refine hK.out _ _ ?_ (fun hH => ?_)
    · try dsimp only
      exact HSee.out _ BZ.out
    clear hK K
    refine wpAnyH_ready (rs := [6]) (by kernel_rfl) (by simp) ?_
    refine AllReadyH.cons rfl (fun K hK => ?_) ?_
    · go_simp
      go_at_call 85
      refine Calls.mono (nodeT_u _ _ pa pc s (HRd.out _ (BZ.out)) p h0 h1) ?_
      rintro e w3 ⟨hb3, hok, -⟩
      have b3 : Below w2.heap.size w2 w3 := on (BZ.out) hb3
      obtain ⟨ia, il, ic, ka, kl, kc, rfl, hI3, hK3⟩ := hok nd HNd.out
      have HB3 : Hid _ := b3
      have VC : Hid _ := VZ.out.below hb3
      have hlt : Hid (w2.heap.size < wZ.heap.size) := VZ.out.lt
      have HI3 : Hid _ := hI3
      have HK3 : Hid _ := hK3
      obtain ⟨g0, g1⟩ := VC.out.two
      have g2 := VC.out.frozen 0
      have g3 := VC.out.frozen 1
      clear hok hI3 hK3 b3 hb3
      go_simp
      refine hK.out _ _ ?_ (fun hH => ?_)
      · try dsimp only
        exact HSee.out _ HB3.out
      clear hK K
      refine wpAnyH_ready (rs := [8]) (by kernel_rfl) (by simp) ?_
      refine AllReadyH.cons rfl (fun K hK => ?_) ?_
      · go_simp
        refine hK.out _ _ ?_ (fun hH => ?_)
        · try dsimp only
          exact HSee.out _ ((HB3.out.setCell (p := ⟨w2.heap.size, 0, none⟩) (Nat.le_refl _) _).setCell (p := ⟨w2.heap.size, 1, none⟩) (Nat.le_refl _) _)
        clear hK K
        refine wpAnyH_done (by kernel_rfl) ?_ _
        clear hH
        go_wp2_with fail
        go_meet
        obtain ⟨w9, hw9, V9, K9⟩ := VC.out.whole2 (.slice ia il ic) (.slice ka kl kc)
        rw [hw9]
        exact ⟨w2.heap.size, ia, il, ic, ka, kl, kc, rfl, Nat.le_refl _, V9, (HI3.out.keptL K9 hlt.out).mono (Nat.le_of_lt hlt.out), (HK3.out.keptL K9 hlt.out).mono (Nat.le_of_lt hlt.out), Kept.belowOf HB3.out K9 (Nat.le_refl _)⟩
      exact AllReadyH.nil
    exact AllReadyH.nil
  exact AllReadyH.nil
 case rest =>
  obtain ⟨nb, ia, il, ic, ka, kl, kc, rfl, HNb, RN, HI, HK, HB3⟩ := hcut
  obtain ⟨w3, hw3⟩ : ∃ w3, w3 = wc := ⟨_, rfl⟩
  subst hw3
  obtain ⟨r0, r1⟩ := (V1b.out.below HB3.out).two
  obtain ⟨q0, q1⟩ := RN.out.two
  have HKL : Hid (kl = nd.2.length) := by obtain ⟨x, y, e, -⟩ := HK.out.slice; simp only [Value.slice.injEq] at e; exact e.2.1
  clear HSee HRd V1b
  go_wp2_with fail
  go_at_call 104
  refine Calls.mono (contentOf_u _ w2.heap.size ia ka il ic kl kc nd.1 nd.2 fr HI.out HK.out HOk.out.few (Tr.shape HOk.out) HB3.out.size) ?_
  rintro e w4 ⟨ca, cn, cc, da, dn, dc, rfl, hC4, b4⟩
  obtain ⟨w5, hw5, V5r, b5, z5⟩ := boxedRow w4 129 [.slice ca cn cc, .slice da dn dc]
  have B5 : Hid (Below w2.heap.size w2 w5) := on (on HB3.out b4) b5
  have HC5 : Hid (IsCnt w5 w2.heap.size (.slice ca cn cc) (.slice da dn dc) (Tr.contOf nd fr)) := hC4.below b5
  have RN5 : Hid _ := (RN.out.below b4).below b5
  have HI5 : Hid _ := (HI.out.below b4).below b5
  have V5 : Hid _ := V5r
  have HZ5 : Hid (w2.heap.size ≤ w4.heap.size ∧ w5.heap.size = w4.heap.size + 1) := ⟨(on HB3.out b4).size, z5⟩
  clear r0 r1 q0 q1 RN HI HK HB3 hC4 b4 b5 V5r z5
  obtain ⟨q0, q1⟩ := RN5.out.two
  go_wp2_with fail
  go_at_call 60
  refine (isLeafT_u _ _ _ _ _).mono ?_
  rintro e w6 ⟨rfl, b6⟩
  have B6 : Hid _ := on B5.out b6
  have HC6 : Hid _ := HC5.out.below b6
  have RN6 : Hid _ := RN5.out.below b6
  have HI6 : Hid _ := HI5.out.below b6
  have V6 : Hid _ := V5.out.below b6
  have R6 : Hid _ := V2.out.below B6.out
  have W6 : Hid _ := W2.out.below B6.out
  have HB0 : Hid _ := on B2.out B6.out
  have HJ6 : Hid (J w6) := HT.out.stay HJ0.out ((WTurn.of (g := g) HB0.out).under HW0.out HB.out)
  clear q0 q1 b6 B5 HC5 RN5 HI5 V5 W2 V2 hw5 hw1 hw2
  have hkl : ¬ ((kl : Int) = 0) := by have := HKL.out; have : nd.2.length ≠ 0 := fun e => HKn.out (List.length_eq_zero_iff.1 e); omega
  obtain ⟨q, hq⟩ : ∃ q, q = Lf.way (nd.1, nd.2) key := ⟨_, rfl⟩
  have HQ : Hid (q = Lf.way nd key) := hq
  have HDN : Hid (dn = (Tr.contOf nd fr).2.length) := by obtain ⟨x, y, e, -⟩ := HC6.out.kids.slice; simp only [Value.slice.injEq] at e; exact e.2.1
  have HDN4 : Hid (2 ≤ dn ∧ dn ≤ 4) := by have h1 := (Tr.contOf_len fr HOk.out HKn.out).2; have h2 := HOk.out.some_; have h3 := HOk.out.few; have h4 := HDN.out; unfold Hid; omega
  have HQL : Hid (q < dn) := by have h := Tr.way_lt fr key HOk.out HKn.out; rw [← HDN.out, ← HQ.out] at h; exact h
  have HSee5 : Hid (∀ W', Below w6.heap.size w6 W' → W'.cell? ⟨nb, 0, none⟩ = some (.slice ia il ic) ∧ W'.cell? ⟨nb, 1, none⟩ = some (.slice ka kl kc) ∧ W'.cell? ⟨g, 1, none⟩ = some (.int .u64 (key.toNat : Int))) := fun W' b' => ⟨(RN6.out.below b').cell (j := 0) rfl, (RN6.out.below b').cell (j := 1) rfl, (W6.out.row.below b').cell (j := 1) rfl⟩
  have HWy : Hid _ := way_u w6.drew (fun b => w2.heap.size ≤ b) ia il ic (.slice ka kl kc) nd.1 nd.2 (Rep.below (HI6.out.rd (by have := HOk.out.few; omega)) (Below.refl _ _).drew) key
  rw [← hq] at HWy
  clear hq HKL RN6 HI6
  go_wp2_with fail
  refine wp_region_held_drew (S := (fun w' : World => w'.cell? ⟨nb, 0, none⟩ = some (.slice ia il ic) ∧ w'.cell? ⟨nb, 1, none⟩ = some (.slice ka kl kc) ∧ w'.cell? ⟨g, 1, none⟩ = some (.int .u64 (key.toNat : Int)))) (by kernel_rfl) (HSee5.out _ (Below.refl _ _).drew) (fun hH => ?_)
  refine tkL 0 ?_ rfl rfl (Or.inl ⟨by rfl, ?_⟩) ?_; rotate_left
  · intro w h; (try dsimp only at h); go_simp; all_goals with_reducible rfl
  simp only [sz, ss]
  refine tkL 1 ?_ rfl rfl (Or.inl ⟨by rfl, ?_⟩) ?_; rotate_left
  · intro w h; (try dsimp only at h); go_simp; all_goals with_reducible rfl
  simp only [sz, ss]
  refine tkL 2 ?_ rfl rfl (Or.inl ⟨by rfl, ?_⟩) ?_; rotate_left
  · intro w h; (try dsimp only at h); go_simp; all_goals with_reducible rfl
  simp only [sz, ss]
  refine tkL 3 ?_ rfl rfl (Or.inl ⟨by rfl, ?_⟩) ?_; rotate_left
  · intro w h; (try dsimp only at h); go_simp; all_goals with_reducible rfl
  simp only [sz, ss]
  refine tkL 4 ?_ rfl rfl (Or.inl ⟨by rfl, ?_⟩) ?_; rotate_left
  · intro w h; (try dsimp only at h); go_simp; all_goals with_reducible rfl
  simp only [sz, ss]
  refine wpAnyH_ready (rs := [5]) (by kernel_rfl) (by simp) ?_
  refine AllReadyH.cons rfl (fun K hK => ?_) ?_
  · go_simp
    go_at_call 59
    refine Calls.mono HWy.out ?_
    rintro e w7 ⟨rfl, hb7⟩
    have b7 : Below w6.heap.size w6 w7 := below_drew_pre0 hb7
    have hS7 := HSee5.out _ b7
    have HB7 : Hid _ := b7
    clear b7 hb7
    go_simp
    refine hK.out _ _ ?_ (fun hH => ?_)
    · try dsimp only
      exact hS7
    clear hK K
    refine tkL 6 ?_ rfl rfl (Or.inl ⟨by rfl, ?_⟩) ?_; rotate_left
    · intro w h; (try dsimp only at h); go_simp; all_goals with_reducible rfl
    simp only [sz, ss]
    refine wpAnyH_done (by kernel_rfl) ?_ _
    clear hH hS7
    have V7 : Hid _ := V6.out.below HB7.out
    have R7 : Hid _ := R6.out.below HB7.out
    have W7 : Hid _ := W6.out.below HB7.out
    have B7 : Hid _ := on HB0.out HB7.out
    have HK7 : Hid (OwnB 149 w7 w2.heap.size (.slice da dn dc) (Tr.contOf nd fr).2) := HC6.out.kids.below HB7.out
    obtain ⟨kb, off, rfl, -, hkb, hat⟩ := rBrns_at (HK7.out.rd (by have := HDN.out; have := HDN4.out; omega)) (by have := HQL.out; omega)
    have hkx : (Tr.contOf nd fr).2[q]'(by have := HDN.out; have := HQL.out; omega) = kid := by
     rw [← HKid.out, ← HQ.out]
     rw [List.getD_eq_getElem?_getD, List.getElem?_eq_getElem (by have := HDN.out; have := HQL.out; omega)]
     rfl
    obtain ⟨c0, c1⟩ := hat q (by have := HDN.out; have := HQL.out; omega)
    rw [hkx] at c0 c1
    obtain ⟨y0, y1⟩ := V7.out.two
    have hq0 : (0 : Int) ≤ (q : Int) := Int.natCast_nonneg _
    have hq1 : (q : Int) < (dn : Int) := by have := HQL.out; omega
    have hq4 : q ≤ 4 := by have := HQL.out; have := HDN4.out; omega
    have hd4 : dn ≤ 4 := HDN4.out.2
    obtain ⟨q1, hq1e⟩ : ∃ q1, q1 = q + 1 := ⟨_, rfl⟩
    have HQ1 : Hid (q1 = q + 1) := hq1e
    have hwq : IntKind.i64.wrap ((q : Int) + 1) = (q1 : Int) := by rw [IntKind.wrap_i64]; omega
    clear hq1e hat hkx V6 R6 W6 HC6 HSee5 HWy
    go_wp2_with fail
    go_at_call 82
    refine Calls.mono (HRec.out w7 B7.out) ?_
    rintro e w8 hd
    obtain ⟨na, nn, nc, ma, mn, mc, v8, rfl, hC8, hW8, t8⟩ := hd.2 s1 now rfl
    have tk8 : TK [125, 72] w7 w8 := TK.turn W7.out t8.turn
    obtain ⟨w9, hw9, V9r, b9, z9⟩ := boxedRow w8 129 [.slice na nn nc, .slice ma mn mc]
    have HZ9 : Hid (w4.heap.size < w8.heap.size ∧ w1.heap.size < w4.heap.size) := ⟨by have := V7.out.lt; have := t8.turn.size; omega, by have := HZ.out; have := HZ2.out; have := HZ5.out.1; omega⟩
    have HKB : Hid (kb < w8.heap.size) := by have := t8.turn.size; unfold Hid; omega
    have V9 : Hid _ := (V7.out.tk tk8 (by decide)).below b9
    have R9 : Hid _ := (R7.out.tk tk8 (by decide)).below b9
    have N9 : Hid _ := V9r
    have HK9 : Hid _ := (HK7.out.tk tk8 (by decide)).below b9
    have HC9 : Hid _ := (hC8.mono B7.out.size).below b9
    have W9 : Hid (Wr w9 g base v8 s1 (.int .u64 (key.toNat : Int)) (.func (.func f) #[] bs)) := hW8.below b9
    have HT9 : Hid (WTurn g (.slice pa s.length pc) w v8 w9) := ((WTurn.of B7.out).trans t8).trans (WTurn.of b9)
    have HNN : Hid (nn = now.1.length ∧ mn = now.2.length) := ⟨by obtain ⟨x, y, e, -⟩ := hC8.items.slice; simp only [Value.slice.injEq] at e; exact e.2.1, by obtain ⟨x, y, e, -⟩ := hC8.kids.slice; simp only [Value.slice.injEq] at e; exact e.2.1⟩
    have hnm : nn + mn ≤ 6 := by have h := HFew.out; unfold Tr.csize at h; have := HNN.out; omega
    clear hd hC8 hW8 t8 tk8 V9r b9 z9 V7 R7 W7 HK7 y0 y1 c0 c1 hkb hq1
    obtain ⟨y0, y1⟩ := N9.out.two
    go_wp2_with fail
    go_at_call 105
    refine (csize_u _ _ _ _ _ _ _ (by omega) (by omega)).mono ?_
    rintro e wA ⟨rfl, bA⟩
    have VA : Hid _ := V9.out.below bA
    have RA : Hid _ := R9.out.below bA
    have NA : Hid _ := N9.out.below bA
    have HKA : Hid _ := HK9.out.below bA
    have HCA : Hid _ := HC9.out.below bA
    have WA : Hid _ := W9.out.below bA
    have HTA : Hid (WTurn g (.slice pa s.length pc) w v8 wA) := HT9.out.trans (WTurn.of bA)
    have HBA : Hid _ := bA
    clear y0 y1 bA V9 R9 N9 HK9 HC9 W9 HT9 hw9
    have hqz0 : q = 0 := by rw [HQ.out]; exact HI0.out
    have hqz : ¬ ((q : Int) > 0) := by omega
    have HQ0 : Hid (q = 0 ∧ q1 = 1) := ⟨hqz0, by have := HQ1.out; omega⟩
    clear hqz0
    obtain ⟨q2, hq2⟩ : ∃ q2, q2 = q1 + 1 := ⟨_, rfl⟩
    have HQ2 : Hid (q2 = 2) := by have := HQ0.out; unfold Hid; omega
    have hw2 : IntKind.i64.wrap ((q1 : Int) + 1) = (q2 : Int) := by rw [IntKind.wrap_i64]; have := HQ0.out; omega
    have hI0 : (0 : Int) ≤ (q1 : Int) := Int.natCast_nonneg _
    have hIl : (q1 : Int) < (dn : Int) := by have := HDN4.out; have := HQ0.out; omega
    have HIl : Hid (q1 < dn) := by have := HDN4.out; have := HQ0.out; unfold Hid; omega
    have HIJ : Hid (q < q2 ∧ q2 ≤ dn) := ⟨by have := HQ0.out; have := HQ2.out; omega, by have := HQ2.out; have := HDN4.out; omega⟩
    have HSib1 : Hid ((Tr.contOf nd fr).2.getD q1 (0, 0) = sib) := by have h := HSib.out; rw [← HQ0.out.2] at h; exact h
    clear hq2
    have hz : ¬ ((nn : Int) + (mn : Int) ≥ 2) := by have h := HSm.out; unfold Tr.csize at h; have := HNN.out; omega
    obtain ⟨kb', off', he, -, -, hat⟩ := rBrns_at (HKA.out.rd (by have := HDN.out; have := HDN4.out; omega)) (by have := HQL.out; omega)
    simp only [Option.some.injEq, Addr.mk.injEq] at he
    obtain ⟨rfl, rfl, -⟩ := he
    have hsx : (Tr.contOf nd fr).2[q1]'(by have := HDN.out; have := HIl.out; omega) = sib := by
     rw [← HSib1.out]
     rw [List.getD_eq_getElem?_getD, List.getElem?_eq_getElem (by have := HDN.out; have := HIl.out; omega)]
     rfl
    obtain ⟨c0, c1⟩ := hat q1 (by have := HDN.out; have := HIl.out; omega)
    rw [hsx] at c0 c1
    have HPS : Hid (1 ≤ sib.2 ∧ sib.2 ≤ 2049) := by have h := Tr.contOf_pages fr HOk.out _ (List.getElem_mem (show q1 < (Tr.contOf nd fr).2.length by have := HDN.out; have := HIl.out; omega)); rw [hsx] at h; exact h
    have HKBA : Hid (kb < wA.heap.size) := by have h1 := HKB.out; have h2 := NA.out.lt; unfold Hid; omega
    have HSeeJ : Hid (∀ W', Below wA.heap.size wA W' → W'.cell? ⟨w4.heap.size, 1, none⟩ = some (.slice (some ⟨kb, off, none⟩) dn dc) ∧ W'.cell? ⟨kb, off + q1 * 2, none⟩ = some (.int .u64 (sib.1.toNat : Int)) ∧ W'.cell? ⟨kb, off + q1 * 2 + 1, none⟩ = some (.int .i64 sib.2)) := fun W' b' => ⟨(VA.out.below b').cell (j := 1) rfl, (Turn.of (S := []) b').cell c0 HKBA.out (by simp), (Turn.of (S := []) b').cell c1 HKBA.out (by simp)⟩
    obtain ⟨y0, y1⟩ := NA.out.two
    clear hat hsx
    go_wp2_with fail
    refine wp_region_held_drew (S := (fun w' : World => w'.cell? ⟨w4.heap.size, 1, none⟩ = some (.slice (some ⟨kb, off, none⟩) dn dc) ∧ w'.cell? ⟨kb, off + q1 * 2, none⟩ = some (.int .u64 (sib.1.toNat : Int)) ∧ w'.cell? ⟨kb, off + q1 * 2 + 1, none⟩ = some (.int .i64 sib.2))) (by kernel_rfl) (HSeeJ.out _ (Below.refl _ _).drew) (fun hH => ?_)
    refine tkL 1 ?_ rfl rfl (Or.inl ⟨by rfl, ?_⟩) ?_; rotate_left
    · intro w h; (try dsimp only at h); go_simp; all_goals with_reducible rfl
    simp only [sz, ss]
    refine tkL 2 ?_ rfl rfl (Or.inl ⟨by rfl, ?_⟩) ?_; rotate_left
    · intro w h; (try dsimp only at h); go_simp; all_goals with_reducible rfl
    simp only [sz, ss]
    refine tkL 3 ?_ rfl rfl (Or.inl ⟨by rfl, ?_⟩) ?_; rotate_left
    · intro w h; (try dsimp only at h); go_simp; all_goals with_reducible rfl
    simp only [sz, ss]
    refine tkL 4 ?_ rfl rfl (Or.inl ⟨by rfl, ?_⟩) ?_; rotate_left
    · intro w h; (try dsimp only at h); go_simp; all_goals with_reducible rfl
    simp only [sz, ss]
    refine tkL 5 ?_ rfl rfl (Or.inl ⟨by rfl, ?_⟩) ?_; rotate_left
    · intro w h; (try dsimp only at h); go_simp; all_goals with_reducible rfl
    simp only [sz, ss]
    refine tkL 6 ?_ rfl rfl (Or.inl ⟨by rfl, ?_⟩) ?_; rotate_left
    · intro w h; (try dsimp only at h); go_simp; all_goals with_reducible rfl
    simp only [sz, ss]
    refine wpAnyH_ready (rs := [0, 7]) (by kernel_rfl) (by simp) ?_
    refine AllReadyH.cons rfl (fun K hK => ?_) ?_
    · go_simp
      refine hK.out _ _ ?_ (fun hH => ?_)
      · try dsimp only
        exact HSeeJ.out _ (Below.refl _ _).drew
      clear hK K
      refine wpAnyH_ready (rs := [7]) (by kernel_rfl) (by simp) ?_
      refine AllReadyH.cons rfl (fun K hK => ?_) ?_
      · go_simp
        go_at_call 107
        refine Calls.mono (read_u wA.drew g base v8 s1 (.int .u64 (key.toNat : Int)) (.func (.func f) #[] bs) (WA.out.below (Below.refl _ _).drew) sib.1 sib.2 (by have := HPS.out; omega) (by have := HPS.out; omega)) ?_
        rintro e wD ⟨bD', -, hok⟩
        obtain ⟨ea, en, ec, fa, fn, fc, rfl, hCD⟩ := hok n2 HN2.out
        have HBD : Hid (Below wA.heap.size wA wD) := below_drew_pre0 bD'
        have HCD : Hid (IsCnt wD w.heap.size (.slice ea en ec) (.slice fa fn fc) (Tr.contOf n2 sib.1)) := hCD.mono HTA.out.turn.size
        have HCN : Hid _ := HCA.out.below HBD.out
        have HEN : Hid (en ≤ 4 ∧ fn ≤ 4) := by
         have h := (Tr.contOf_size sib.1 HOk2.out).2
         unfold Tr.csize at h
         obtain ⟨x, y, e1, -⟩ := hCD.items.slice
         obtain ⟨x', y', e2, -⟩ := hCD.kids.slice
         simp only [Value.slice.injEq] at e1 e2
         unfold Hid
         omega
        have hSD := HSeeJ.out _ HBD.out
        have ND : Hid _ := NA.out.below HBD.out
        clear bD' hok hCD
        obtain ⟨z0, z1⟩ := ND.out.two
        go_simp
        refine hK.out _ _ ?_ (fun hH => ?_)
        · try dsimp only
          exact hSD
        clear hK K
        refine wpAnyH_ready (rs := [8]) (by kernel_rfl) (by simp) ?_
        refine AllReadyH.cons rfl (fun K hK => ?_) ?_
        · go_simp
          go_at_call 106
          refine Calls.mono (joined_u wD (fun b => w.heap.size ≤ b) na ma ea fa nn nc mn mc en ec fn fc now.1 (Tr.contOf n2 sib.1).1 now.2 (Tr.contOf n2 sib.1).2 (HCN.out.items.rd (by have h := HFew.out; unfold Tr.csize at h; omega)) (HCN.out.kids.rd (by have h := HFew.out; unfold Tr.csize at h; omega)) (HCD.out.items.rd (by have h := (Tr.contOf_size sib.1 HOk2.out).2; unfold Tr.csize at h; omega)) (HCD.out.kids.rd (by have h := (Tr.contOf_size sib.1 HOk2.out).2; unfold Tr.csize at h; omega)) (by omega) (by omega) (by have := HEN.out; omega) (by have := HEN.out; omega)) ?_
          rintro e wE ⟨ja, jn, jc, la, ln, lc, rfl, hCE, bE⟩
          have HBE : Hid _ := on HBD.out bE
          have HCE : Hid (IsCnt wE w.heap.size (.slice ja jn jc) (.slice la ln lc) (Tr.joined now (Tr.contOf n2 sib.1))) := hCE.mono (by have h1 := HTA.out.turn.size; have h2 := HBD.out.size; omega)
          have hSE := HSeeJ.out _ HBE.out
          have NE : Hid _ := NA.out.below HBE.out
          have HSF : Hid (∀ u u', ((wE.setCell ⟨w8.heap.size, 0, none⟩ u).setCell ⟨w8.heap.size, 1, none⟩ u').cell? ⟨w4.heap.size, 1, none⟩ = some (.slice (some ⟨kb, off, none⟩) dn dc) ∧ ((wE.setCell ⟨w8.heap.size, 0, none⟩ u).setCell ⟨w8.heap.size, 1, none⟩ u').cell? ⟨kb, off + q1 * 2, none⟩ = some (.int .u64 (sib.1.toNat : Int)) ∧ ((wE.setCell ⟨w8.heap.size, 0, none⟩ u).setCell ⟨w8.heap.size, 1, none⟩ u').cell? ⟨kb, off + q1 * 2 + 1, none⟩ = some (.int .i64 sib.2)) := fun u u' => by
           have s1' := HSeeJ.out _ HBE.out
           have k1 : Kept (· ≠ w8.heap.size) wE ((wE.setCell ⟨w8.heap.size, 0, none⟩ u).setCell ⟨w8.heap.size, 1, none⟩ u') := ((Kept.refl _ wE).setCell (p := ⟨w8.heap.size, 0, none⟩) (fun h => h rfl) u).setCell (p := ⟨w8.heap.size, 1, none⟩) (fun h => h rfl) u'
           have n1 : kb ≠ w8.heap.size := by have := HKB.out; omega
           have n2 : w4.heap.size ≠ w8.heap.size := by have := HZ9.out; omega
           exact ⟨k1.cell (p := ⟨w4.heap.size, 1, none⟩) n2 s1'.1, k1.cell (p := ⟨kb, _, none⟩) n1 s1'.2.1, k1.cell (p := ⟨kb, _, none⟩) n1 s1'.2.2⟩
          obtain ⟨g0, g1⟩ := NE.out.two
          have g2 := NE.out.frozen 0
          have g3 := NE.out.frozen 1
          clear hCE bE
          go_simp
          refine hK.out _ _ ?_ (fun hH => ?_)
          · try dsimp only
            exact hSE
          clear hK K
          refine wpAnyH_ready (rs := [9]) (by kernel_rfl) (by simp) ?_
          refine AllReadyH.cons rfl (fun K hK => ?_) ?_
          · go_simp
            refine hK.out _ _ ?_ (fun hH => ?_)
            · try dsimp only
              exact HSF.out _ _
            clear hK K
            refine wpAnyH_done (by kernel_rfl) ?_ _
            clear hH g0 g1 g2 g3
            obtain ⟨wF, hwF, VnF, KF⟩ := NE.out.whole2 (.slice ja jn jc) (.slice la ln lc)
            rw [hwF]
            have tkF : TK [129] wE wF := TK.box NE.out KF
            have NF : Hid _ := VnF
            have VF : Hid (Row wF w4.heap.size 129 [.slice ca cn cc, .slice (some ⟨kb, off, none⟩) dn dc]) := (VA.out.below HBE.out).keep (KF.block _ (by have := HZ9.out; show w4.heap.size ≠ w8.heap.size; omega))
            have RF : Hid (Row wF w1.heap.size 129 [.slice none 0 0, .slice none 0 0]) := (RA.out.below HBE.out).keep (KF.block _ (by have := HZ9.out; show w1.heap.size ≠ w8.heap.size; omega))
            have HKF : Hid _ := (HKA.out.below HBE.out).tk tkF (by decide)
            have HCF : Hid (IsCnt wF w.heap.size (.slice ja jn jc) (.slice la ln lc) (Tr.joined now (Tr.contOf n2 sib.1))) := HCE.out.tk tkF (by decide) (by decide)
            have WF : Hid (Wr wF g base v8 s1 (.int .u64 (key.toNat : Int)) (.func (.func f) #[] bs)) := (WA.out.below HBE.out).tk tkF (by decide) (by decide) (by decide)
            have HTF : Hid (WTurn g (.slice pa s.length pc) w v8 wF) := (HTA.out.trans (WTurn.of HBE.out)).low (Kept.belowOf (Below.refl _ _) KF (by have := HZ9.out; have := HZ.out; omega))
            have HLF : Hid (jn = (Tr.joined now (Tr.contOf n2 sib.1)).1.length ∧ ln = (Tr.joined now (Tr.contOf n2 sib.1)).2.length) := ⟨by obtain ⟨x, y, e, -⟩ := HCE.out.items.slice; simp only [Value.slice.injEq] at e; exact e.2.1, by obtain ⟨x, y, e, -⟩ := HCE.out.kids.slice; simp only [Value.slice.injEq] at e; exact e.2.1⟩
            have HSz : Hid (Tr.csize (Tr.joined now (Tr.contOf n2 sib.1)) ≤ 6) := by
             have h1 := (Tr.contOf_size sib.1 HOk2.out).2
             have h2 := HSm.out
             unfold Tr.csize at h1 h2
             unfold Hid Tr.csize Tr.joined
             simp only [List.length_append]
             omega
            have HSz1 : Hid (1 ≤ Tr.csize (Tr.joined now (Tr.contOf n2 sib.1))) := by
             have h1 := (Tr.contOf_size sib.1 HOk2.out).1
             unfold Tr.csize at h1
             unfold Hid Tr.csize Tr.joined
             simp only [List.length_append]
             omega
            have HPg : Hid (Tr.PagesIn (Tr.joined now (Tr.contOf n2 sib.1)).2) := fun b hb => by
             rcases List.mem_append.1 hb with hb | hb
             · exact HPn.out b hb
             · exact Tr.contOf_pages _ HOk2.out b hb
            clear HSeeJ HBE HCE NE HSF ND HCD HCN VnF KF tkF hwF c0 c1 y0 y1 hSD hSE z0 z1 HBD VA RA NA HKA HCA WA HTA
            have HSeeT : Hid (∀ W', Turn (WS g v8) wF W' → W'.cell? ⟨w4.heap.size, 1, none⟩ = some (.slice (some ⟨kb, off, none⟩) dn dc) ∧ W'.cell? ⟨w8.heap.size, 0, none⟩ = some (.slice ja jn jc) ∧ W'.cell? ⟨w8.heap.size, 1, none⟩ = some (.slice la ln lc)) := fun W' t' => by
             have tk := TK.turn WF.out t'
             exact ⟨(VF.out.tk tk (by decide)).cell (j := 1) rfl, (NF.out.tk tk (by decide)).cell (j := 0) rfl, (NF.out.tk tk (by decide)).cell (j := 1) rfl⟩
            go_wp2_with fail
            refine wp_region_held_drew (S := (fun w' : World => w'.cell? ⟨w4.heap.size, 1, none⟩ = some (.slice (some ⟨kb, off, none⟩) dn dc) ∧ w'.cell? ⟨w8.heap.size, 0, none⟩ = some (.slice ja jn jc) ∧ w'.cell? ⟨w8.heap.size, 1, none⟩ = some (.slice la ln lc))) (by kernel_rfl) (HSeeT.out _ (Turn.of (Below.refl _ _).drew)) (fun hH => ?_)
            refine tkL 0 ?_ rfl rfl (Or.inl ⟨by rfl, ?_⟩) ?_; rotate_left
            · intro w h; (try dsimp only at h); go_simp; all_goals with_reducible rfl
            simp only [sz, ss]
            refine tkL 1 ?_ rfl rfl (Or.inl ⟨by rfl, ?_⟩) ?_; rotate_left
            · intro w h; (try dsimp only at h); go_simp; all_goals with_reducible rfl
            simp only [sz, ss]
            refine tkL 2 ?_ rfl rfl (Or.inl ⟨by rfl, ?_⟩) ?_; rotate_left
            · intro w h; (try dsimp only at h); go_simp; all_goals with_reducible rfl
            simp only [sz, ss]
            refine tkL 3 ?_ rfl rfl (Or.inl ⟨by rfl, ?_⟩) ?_; rotate_left
            · intro w h; (try dsimp only at h); go_simp; all_goals with_reducible rfl
            simp only [sz, ss]
            refine tkL 4 ?_ rfl rfl (Or.inl ⟨by rfl, ?_⟩) ?_; rotate_left
            · intro w h; (try dsimp only at h); go_simp; all_goals with_reducible rfl
            simp only [sz, ss]
            refine tkL 5 ?_ rfl rfl (Or.inl ⟨by rfl, ?_⟩) ?_; rotate_left
            · intro w h; (try dsimp only at h); go_simp; all_goals with_reducible rfl
            simp only [sz, ss]
            refine wpAnyH_ready (rs := [6]) (by kernel_rfl) (by simp) ?_
            refine AllReadyH.cons rfl (fun K hK => ?_) ?_
            · go_simp
              go_at_call 81
              refine Calls.mono (lay_u wF.drew g base v8 s1 (.int .u64 (key.toNat : Int)) (.func (.func f) #[] bs) (WF.out.below (Below.refl _ _).drew) _ ja la jn jc ln lc (Tr.joined now (Tr.contOf n2 sib.1)).1 (Tr.joined now (Tr.contOf n2 sib.1)).2 (HCF.out.below (Below.refl _ _).drew |>.rd (by have := HSz.out; unfold Tr.csize at this; omega) (by have := HSz.out; unfold Tr.csize at this; omega)).1 (HCF.out.below (Below.refl _ _).drew |>.rd (by have := HSz.out; unfold Tr.csize at this; omega) (by have := HSz.out; unfold Tr.csize at this; omega)).2 ((HCF.out.below (Below.refl _ _).drew).apartW (WF.out.below (Below.refl _ _).drew)) (by have := HLF.out; have := HSz.out; unfold Tr.csize at this; omega) (by have := HLF.out; have := HSz.out; unfold Tr.csize at this; omega) (fun b hb => by have := HPg.out b hb; omega)) ?_
              rintro e wY hd
              rcases hy : Tr.lay s1 ((Tr.joined now (Tr.contOf n2 sib.1)).1, (Tr.joined now (Tr.contOf n2 sib.1)).2) with x | ⟨s2, lb⟩
              · obtain ⟨rfl, tY⟩ := hd.1 x hy
                refine ⟨rfl, ChgDone.no (Tr.layR_error (show Tr.lay s1 (Tr.joined now (Tr.contOf n2 sib.1)) = .error x from hy) _ _ _) (WTurn.trans HTF.out (v2 := v8) ⟨Turn.trans (Turn.of (Below.refl _ _).drew) tY, fun b e => .inl e⟩).turn⟩
              obtain ⟨oa, om, oc, vY, rfl, ho, hWY, tY, -⟩ := hd.2 s2 lb hy
              have HLy : Hid (Tr.lay s1 (Tr.joined now (Tr.contOf n2 sib.1)) = .ok (s2, lb)) := hy
              have t0 : Turn (WS g v8) wF wY := Turn.trans (Turn.of (Below.refl _ _).drew) tY.turn
              have hSY := HSeeT.out _ t0
              have tkY : TK [125, 72] wF wY := TK.turn WF.out t0
              have HLB : Hid (om = lb.length) := by obtain ⟨x, y, e, -⟩ := ho.slice; simp only [Value.slice.injEq] at e; exact e.2.1
              have HLB2 : Hid (1 ≤ lb.length ∧ lb.length ≤ 6) := by have h := (Tr.lay_some WF.out.few hy).1; have h1 := HSz.out; have h2 := HSz1.out; unfold Tr.csize at h1 h2; unfold Hid; simp only at h; omega
              have VY : Hid _ := VF.out.tk tkY (by decide)
              have RY : Hid _ := RF.out.tk tkY (by decide)
              have NY : Hid _ := NF.out.tk tkY (by decide)
              have HKY : Hid _ := HKF.out.tk tkY (by decide)
              have WY : Hid _ := hWY
              have HTY : Hid (WTurn g (.slice pa s.length pc) w vY wY) := HTF.out.trans ⟨t0, tY.place⟩
              have HSY : Hid (w2.heap.size ≤ wY.heap.size) := by have h1 := VY.out.lt; have h2 := HZ5.out.1; unfold Hid; omega
              have HOY : Hid _ := ho
              obtain ⟨vb, vo, rfl, hvP, hvl, -⟩ := rBrns_at (HOY.out.rd (by have := HLB2.out; omega)) (by have := HLB.out; have := HLB2.out; omega)
              have HVB : Hid ((Value.slice (some ⟨kb, off, none⟩) dn dc).ownBlock ≠ some vb) := fun e => by have h := (HKF.out.row.lt vb e).2; have h2 : wF.heap.size ≤ vb := hvP; omega
              clear hd hy ho hWY tY t0 tkY hvP hvl
              go_simp
              refine hK.out _ _ ?_ (fun hH => ?_)
              · try dsimp only
                exact hSY
              clear hK K
              refine wpAnyH_ready (rs := [7]) (by kernel_rfl) (by simp) ?_
              refine AllReadyH.cons rfl (fun K hK => ?_) ?_
              · go_simp
                go_at_call 108
                refine Calls.mono (replace_u wY w2.heap.size _ dn dc q q2 (Tr.contOf nd fr).2 HKY.out _ vb vo om oc lb (HOY.out.rd (by have := HLB2.out; omega)) HVB.out (by have := HLB.out; have := HLB2.out; omega) HIJ.out.1 HIJ.out.2 (by have := HDN4.out; omega) (by have := HLB.out; have := HLB2.out; omega) HSY.out) ?_
                rintro e wR ⟨ra, rn, rc, rfl, hoR, gr⟩
                have tkR : TK [149] wY wR := TK.grewB HKY.out gr
                have bR : Below w2.heap.size wY wR := HKY.out.base_below HSY.out gr
                have VR : Hid _ := VY.out.tk tkR (by decide)
                have RR : Hid _ := RY.out.tk tkR (by decide)
                have NR : Hid _ := NY.out.tk tkR (by decide)
                have WR : Hid (Wr wR g base vY s2 (.int .u64 (key.toNat : Int)) (.func (.func f) #[] bs)) := WY.out.tk tkR (by decide) (by decide) (by decide)
                have HTR : Hid (WTurn g (.slice pa s.length pc) w vY wR) := HTY.out.low (bR.mono B2.out.size)
                have HOR : Hid (OwnB 149 wR w.heap.size (.slice ra rn rc) (Tr.replaced (Tr.contOf nd fr).2 q q2 lb)) := hoR.mono B2.out.size
                have hSR : wR.cell? ⟨w4.heap.size, 1, none⟩ = some (.slice (some ⟨kb, off, none⟩) dn dc) ∧ wR.cell? ⟨w8.heap.size, 0, none⟩ = some (.slice ja jn jc) ∧ wR.cell? ⟨w8.heap.size, 1, none⟩ = some (.slice la ln lc) := ⟨VR.out.cell (j := 1) rfl, NR.out.cell (j := 0) rfl, NR.out.cell (j := 1) rfl⟩
                have HSR2 : Hid (∀ u u', ((wR.setCell ⟨w1.heap.size, 0, none⟩ u).setCell ⟨w1.heap.size, 1, none⟩ u').cell? ⟨w4.heap.size, 1, none⟩ = some (.slice (some ⟨kb, off, none⟩) dn dc) ∧ ((wR.setCell ⟨w1.heap.size, 0, none⟩ u).setCell ⟨w1.heap.size, 1, none⟩ u').cell? ⟨w8.heap.size, 0, none⟩ = some (.slice ja jn jc) ∧ ((wR.setCell ⟨w1.heap.size, 0, none⟩ u).setCell ⟨w1.heap.size, 1, none⟩ u').cell? ⟨w8.heap.size, 1, none⟩ = some (.slice la ln lc)) := fun u u' => by
                 obtain ⟨w8', hw8', V8', K8'⟩ := RR.out.whole2 u u'
                 rw [hw8']
                 have e1 := K8'.block w4.heap.size (by have := HZ9.out; show w4.heap.size ≠ w1.heap.size; omega)
                 have e2 := K8'.block w8.heap.size (by have := HZ9.out; show w8.heap.size ≠ w1.heap.size; omega)
                 exact ⟨(VR.out.keep e1).cell (j := 1) rfl, (NR.out.keep e2).cell (j := 0) rfl, (NR.out.keep e2).cell (j := 1) rfl⟩
                obtain ⟨g0, g1⟩ := RR.out.two
                have g2 := RR.out.frozen 0
                have g3 := RR.out.frozen 1
                clear hoR gr tkR bR
                go_simp
                refine hK.out _ _ ?_ (fun hH => ?_)
                · try dsimp only
                  exact hSR
                clear hK K
                refine tkL 8 ?_ rfl rfl (Or.inl ⟨by rfl, ?_⟩) ?_; rotate_left
                · intro w h; (try dsimp only at h); go_simp; all_goals with_reducible rfl
                simp only [sz, ss]
                refine wpAnyH_ready (rs := [9]) (by kernel_rfl) (by simp) ?_
                refine AllReadyH.cons rfl (fun K hK => ?_) ?_
                · go_simp
                  refine hK.out _ _ ?_ (fun hH => ?_)
                  · try dsimp only
                    exact HSR2.out _ _
                  clear hK K
                  refine wpAnyH_done (by kernel_rfl) ?_ _
                  clear hH
                  go_wp2
                  exact st_retT RR.out _ _ rfl rfl Tryz.underlying129 rfl (by kernel_rfl) (fun w' k' => ChgDone.yes (by rw [← HQ2.out, ← HQ0.out.1]; exact Tr.layR_ok HLy.out _ _ _) rfl ⟨OwnI.nil _ _ _, HOR.out.tk (TK.box RR.out k') (by decide)⟩ (WR.out.tk (TK.box RR.out k') (by decide) (by decide) (by decide)) (HTR.out.low (Kept.belowOf (Below.refl _ _) k' (by have := HZ.out; omega))))
                exact AllReadyH.nil
              exact AllReadyH.nil
            exact AllReadyH.nil
          exact AllReadyH.nil
        exact AllReadyH.nil
      exact AllReadyH.nil
    refine AllReadyH.cons rfl (fun K hK => ?_) ?_
    · go_simp
      go_at_call 107
      refine Calls.mono (read_u wA.drew g base v8 s1 (.int .u64 (key.toNat : Int)) (.func (.func f) #[] bs) (WA.out.below (Below.refl _ _).drew) sib.1 sib.2 (by have := HPS.out; omega) (by have := HPS.out; omega)) ?_
      rintro e wD ⟨bD', -, hok⟩
      obtain ⟨ea, en, ec, fa, fn, fc, rfl, hCD⟩ := hok n2 HN2.out
      have HBD : Hid (Below wA.heap.size wA wD) := below_drew_pre0 bD'
      have HCD : Hid (IsCnt wD w.heap.size (.slice ea en ec) (.slice fa fn fc) (Tr.contOf n2 sib.1)) := hCD.mono HTA.out.turn.size
      have HCN : Hid _ := HCA.out.below HBD.out
      have HEN : Hid (en ≤ 4 ∧ fn ≤ 4) := by
       have h := (Tr.contOf_size sib.1 HOk2.out).2
       unfold Tr.csize at h
       obtain ⟨x, y, e1, -⟩ := hCD.items.slice
       obtain ⟨x', y', e2, -⟩ := hCD.kids.slice
       simp only [Value.slice.injEq] at e1 e2
       unfold Hid
       omega
      have hSD := HSeeJ.out _ HBD.out
      have ND : Hid _ := NA.out.below HBD.out
      clear bD' hok hCD
      obtain ⟨z0, z1⟩ := ND.out.two
      go_simp
      refine hK.out _ _ ?_ (fun hH => ?_)
      · try dsimp only
        exact hSD
      clear hK K
      refine wpAnyH_ready (rs := [0]) (by kernel_rfl) (by simp) ?_
      refine AllReadyH.cons rfl (fun K hK => ?_) ?_
      · go_simp
        refine hK.out _ _ ?_ (fun hH => ?_)
        · try dsimp only
          exact HSeeJ.out _ HBD.out
        clear hK K
        refine wpAnyH_ready (rs := [8]) (by kernel_rfl) (by simp) ?_
        refine AllReadyH.cons rfl (fun K hK => ?_) ?_
        · go_simp
          go_at_call 106
          refine Calls.mono (joined_u wD (fun b => w.heap.size ≤ b) na ma ea fa nn nc mn mc en ec fn fc now.1 (Tr.contOf n2 sib.1).1 now.2 (Tr.contOf n2 sib.1).2 (HCN.out.items.rd (by have h := HFew.out; unfold Tr.csize at h; omega)) (HCN.out.kids.rd (by have h := HFew.out; unfold Tr.csize at h; omega)) (HCD.out.items.rd (by have h := (Tr.contOf_size sib.1 HOk2.out).2; unfold Tr.csize at h; omega)) (HCD.out.kids.rd (by have h := (Tr.contOf_size sib.1 HOk2.out).2; unfold Tr.csize at h; omega)) (by omega) (by omega) (by have := HEN.out; omega) (by have := HEN.out; omega)) ?_
          rintro e wE ⟨ja, jn, jc, la, ln, lc, rfl, hCE, bE⟩
          have HBE : Hid _ := on HBD.out bE
          have HCE : Hid (IsCnt wE w.heap.size (.slice ja jn jc) (.slice la ln lc) (Tr.joined now (Tr.contOf n2 sib.1))) := hCE.mono (by have h1 := HTA.out.turn.size; have h2 := HBD.out.size; omega)
          have hSE := HSeeJ.out _ HBE.out
          have NE : Hid _ := NA.out.below HBE.out
          have HSF : Hid (∀ u u', ((wE.setCell ⟨w8.heap.size, 0, none⟩ u).setCell ⟨w8.heap.size, 1, none⟩ u').cell? ⟨w4.heap.size, 1, none⟩ = some (.slice (some ⟨kb, off, none⟩) dn dc) ∧ ((wE.setCell ⟨w8.heap.size, 0, none⟩ u).setCell ⟨w8.heap.size, 1, none⟩ u').cell? ⟨kb, off + q1 * 2, none⟩ = some (.int .u64 (sib.1.toNat : Int)) ∧ ((wE.setCell ⟨w8.heap.size, 0, none⟩ u).setCell ⟨w8.heap.size, 1, none⟩ u').cell? ⟨kb, off + q1 * 2 + 1, none⟩ = some (.int .i64 sib.2)) := fun u u' => by
           have s1' := HSeeJ.out _ HBE.out
           have k1 : Kept (· ≠ w8.heap.size) wE ((wE.setCell ⟨w8.heap.size, 0, none⟩ u).setCell ⟨w8.heap.size, 1, none⟩ u') := ((Kept.refl _ wE).setCell (p := ⟨w8.heap.size, 0, none⟩) (fun h => h rfl) u).setCell (p := ⟨w8.heap.size, 1, none⟩) (fun h => h rfl) u'
           have n1 : kb ≠ w8.heap.size := by have := HKB.out; omega
           have n2 : w4.heap.size ≠ w8.heap.size := by have := HZ9.out; omega
           exact ⟨k1.cell (p := ⟨w4.heap.size, 1, none⟩) n2 s1'.1, k1.cell (p := ⟨kb, _, none⟩) n1 s1'.2.1, k1.cell (p := ⟨kb, _, none⟩) n1 s1'.2.2⟩
          obtain ⟨g0, g1⟩ := NE.out.two
          have g2 := NE.out.frozen 0
          have g3 := NE.out.frozen 1
          clear hCE bE
          go_simp
          refine hK.out _ _ ?_ (fun hH => ?_)
          · try dsimp only
            exact hSE
          clear hK K
          refine wpAnyH_ready (rs := [9]) (by kernel_rfl) (by simp) ?_
          refine AllReadyH.cons rfl (fun K hK => ?_) ?_
          · go_simp
            refine hK.out _ _ ?_ (fun hH => ?_)
            · try dsimp only
              exact HSF.out _ _
            clear hK K
            refine wpAnyH_done (by kernel_rfl) ?_ _
            clear hH g0 g1 g2 g3
            obtain ⟨wF, hwF, VnF, KF⟩ := NE.out.whole2 (.slice ja jn jc) (.slice la ln lc)
            rw [hwF]
            have tkF : TK [129] wE wF := TK.box NE.out KF
            have NF : Hid _ := VnF
            have VF : Hid (Row wF w4.heap.size 129 [.slice ca cn cc, .slice (some ⟨kb, off, none⟩) dn dc]) := (VA.out.below HBE.out).keep (KF.block _ (by have := HZ9.out; show w4.heap.size ≠ w8.heap.size; omega))
            have RF : Hid (Row wF w1.heap.size 129 [.slice none 0 0, .slice none 0 0]) := (RA.out.below HBE.out).keep (KF.block _ (by have := HZ9.out; show w1.heap.size ≠ w8.heap.size; omega))
            have HKF : Hid _ := (HKA.out.below HBE.out).tk tkF (by decide)
            have HCF : Hid (IsCnt wF w.heap.size (.slice ja jn jc) (.slice la ln lc) (Tr.joined now (Tr.contOf n2 sib.1))) := HCE.out.tk tkF (by decide) (by decide)
            have WF : Hid (Wr wF g base v8 s1 (.int .u64 (key.toNat : Int)) (.func (.func f) #[] bs)) := (WA.out.below HBE.out).tk tkF (by decide) (by decide) (by decide)
            have HTF : Hid (WTurn g (.slice pa s.length pc) w v8 wF) := (HTA.out.trans (WTurn.of HBE.out)).low (Kept.belowOf (Below.refl _ _) KF (by have := HZ9.out; have := HZ.out; omega))
            have HLF : Hid (jn = (Tr.joined now (Tr.contOf n2 sib.1)).1.length ∧ ln = (Tr.joined now (Tr.contOf n2 sib.1)).2.length) := ⟨by obtain ⟨x, y, e, -⟩ := HCE.out.items.slice; simp only [Value.slice.injEq] at e; exact e.2.1, by obtain ⟨x, y, e, -⟩ := HCE.out.kids.slice; simp only [Value.slice.injEq] at e; exact e.2.1⟩
            have HSz : Hid (Tr.csize (Tr.joined now (Tr.contOf n2 sib.1)) ≤ 6) := by
             have h1 := (Tr.contOf_size sib.1 HOk2.out).2
             have h2 := HSm.out
             unfold Tr.csize at h1 h2
             unfold Hid Tr.csize Tr.joined
             simp only [List.length_append]
             omega
            have HSz1 : Hid (1 ≤ Tr.csize (Tr.joined now (Tr.contOf n2 sib.1))) := by
             have h1 := (Tr.contOf_size sib.1 HOk2.out).1
             unfold Tr.csize at h1
             unfold Hid Tr.csize Tr.joined
             simp only [List.length_append]
             omega
            have HPg : Hid (Tr.PagesIn (Tr.joined now (Tr.contOf n2 sib.1)).2) := fun b hb => by
             rcases List.mem_append.1 hb with hb | hb
             · exact HPn.out b hb
             · exact Tr.contOf_pages _ HOk2.out b hb
            clear HSeeJ HBE HCE NE HSF ND HCD HCN VnF KF tkF hwF c0 c1 y0 y1 hSD hSE z0 z1 HBD VA RA NA HKA HCA WA HTA
            have HSeeT : Hid (∀ W', Turn (WS g v8) wF W' → W'.cell? ⟨w4.heap.size, 1, none⟩ = some (.slice (some ⟨kb, off, none⟩) dn dc) ∧ W'.cell? ⟨w8.heap.size, 0, none⟩ = some (.slice ja jn jc) ∧ W'.cell? ⟨w8.heap.size, 1, none⟩ = some (.slice la ln lc)) := fun W' t' => by
             have tk := TK.turn WF.out t'
             exact ⟨(VF.out.tk tk (by decide)).cell (j := 1) rfl, (NF.out.tk tk (by decide)).cell (j := 0) rfl, (NF.out.tk tk (by decide)).cell (j := 1) rfl⟩
            go_wp2_with fail
            refine wp_region_held_drew (S := (fun w' : World => w'.cell? ⟨w4.heap.size, 1, none⟩ = some (.slice (some ⟨kb, off, none⟩) dn dc) ∧ w'.cell? ⟨w8.heap.size, 0, none⟩ = some (.slice ja jn jc) ∧ w'.cell? ⟨w8.heap.size, 1, none⟩ = some (.slice la ln lc))) (by kernel_rfl) (HSeeT.out _ (Turn.of (Below.refl _ _).drew)) (fun hH => ?_)
            refine tkL 0 ?_ rfl rfl (Or.inl ⟨by rfl, ?_⟩) ?_; rotate_left
            · intro w h; (try dsimp only at h); go_simp; all_goals with_reducible rfl
            simp only [sz, ss]
            refine tkL 1 ?_ rfl rfl (Or.inl ⟨by rfl, ?_⟩) ?_; rotate_left
            · intro w h; (try dsimp only at h); go_simp; all_goals with_reducible rfl
            simp only [sz, ss]
            refine tkL 2 ?_ rfl rfl (Or.inl ⟨by rfl, ?_⟩) ?_; rotate_left
            · intro w h; (try dsimp only at h); go_simp; all_goals with_reducible rfl
            simp only [sz, ss]
            refine tkL 3 ?_ rfl rfl (Or.inl ⟨by rfl, ?_⟩) ?_; rotate_left
            · intro w h; (try dsimp only at h); go_simp; all_goals with_reducible rfl
            simp only [sz, ss]
            refine tkL 4 ?_ rfl rfl (Or.inl ⟨by rfl, ?_⟩) ?_; rotate_left
            · intro w h; (try dsimp only at h); go_simp; all_goals with_reducible rfl
            simp only [sz, ss]
            refine tkL 5 ?_ rfl rfl (Or.inl ⟨by rfl, ?_⟩) ?_; rotate_left
            · intro w h; (try dsimp only at h); go_simp; all_goals with_reducible rfl
            simp only [sz, ss]
            refine wpAnyH_ready (rs := [6]) (by kernel_rfl) (by simp) ?_
            refine AllReadyH.cons rfl (fun K hK => ?_) ?_
            · go_simp
              go_at_call 81
              refine Calls.mono (lay_u wF.drew g base v8 s1 (.int .u64 (key.toNat : Int)) (.func (.func f) #[] bs) (WF.out.below (Below.refl _ _).drew) _ ja la jn jc ln lc (Tr.joined now (Tr.contOf n2 sib.1)).1 (Tr.joined now (Tr.contOf n2 sib.1)).2 (HCF.out.below (Below.refl _ _).drew |>.rd (by have := HSz.out; unfold Tr.csize at this; omega) (by have := HSz.out; unfold Tr.csize at this; omega)).1 (HCF.out.below (Below.refl _ _).drew |>.rd (by have := HSz.out; unfold Tr.csize at this; omega) (by have := HSz.out; unfold Tr.csize at this; omega)).2 ((HCF.out.below (Below.refl _ _).drew).apartW (WF.out.below (Below.refl _ _).drew)) (by have := HLF.out; have := HSz.out; unfold Tr.csize at this; omega) (by have := HLF.out; have := HSz.out; unfold Tr.csize at this; omega) (fun b hb => by have := HPg.out b hb; omega)) ?_
              rintro e wY hd
              rcases hy : Tr.lay s1 ((Tr.joined now (Tr.contOf n2 sib.1)).1, (Tr.joined now (Tr.contOf n2 sib.1)).2) with x | ⟨s2, lb⟩
              · obtain ⟨rfl, tY⟩ := hd.1 x hy
                refine ⟨rfl, ChgDone.no (Tr.layR_error (show Tr.lay s1 (Tr.joined now (Tr.contOf n2 sib.1)) = .error x from hy) _ _ _) (WTurn.trans HTF.out (v2 := v8) ⟨Turn.trans (Turn.of (Below.refl _ _).drew) tY, fun b e => .inl e⟩).turn⟩
              obtain ⟨oa, om, oc, vY, rfl, ho, hWY, tY, -⟩ := hd.2 s2 lb hy
              have HLy : Hid (Tr.lay s1 (Tr.joined now (Tr.contOf n2 sib.1)) = .ok (s2, lb)) := hy
              have t0 : Turn (WS g v8) wF wY := Turn.trans (Turn.of (Below.refl _ _).drew) tY.turn
              have hSY := HSeeT.out _ t0
              have tkY : TK [125, 72] wF wY := TK.turn WF.out t0
              have HLB : Hid (om = lb.length) := by obtain ⟨x, y, e, -⟩ := ho.slice; simp only [Value.slice.injEq] at e; exact e.2.1
              have HLB2 : Hid (1 ≤ lb.length ∧ lb.length ≤ 6) := by have h := (Tr.lay_some WF.out.few hy).1; have h1 := HSz.out; have h2 := HSz1.out; unfold Tr.csize at h1 h2; unfold Hid; simp only at h; omega
              have VY : Hid _ := VF.out.tk tkY (by decide)
              have RY : Hid _ := RF.out.tk tkY (by decide)
              have NY : Hid _ := NF.out.tk tkY (by decide)
              have HKY : Hid _ := HKF.out.tk tkY (by decide)
              have WY : Hid _ := hWY
              have HTY : Hid (WTurn g (.slice pa s.length pc) w vY wY) := HTF.out.trans ⟨t0, tY.place⟩
              have HSY : Hid (w2.heap.size ≤ wY.heap.size) := by have h1 := VY.out.lt; have h2 := HZ5.out.1; unfold Hid; omega
              have HOY : Hid _ := ho
              obtain ⟨vb, vo, rfl, hvP, hvl, -⟩ := rBrns_at (HOY.out.rd (by have := HLB2.out; omega)) (by have := HLB.out; have := HLB2.out; omega)
              have HVB : Hid ((Value.slice (some ⟨kb, off, none⟩) dn dc).ownBlock ≠ some vb) := fun e => by have h := (HKF.out.row.lt vb e).2; have h2 : wF.heap.size ≤ vb := hvP; omega
              clear hd hy ho hWY tY t0 tkY hvP hvl
              go_simp
              refine hK.out _ _ ?_ (fun hH => ?_)
              · try dsimp only
                exact hSY
              clear hK K
              refine wpAnyH_ready (rs := [7]) (by kernel_rfl) (by simp) ?_
              refine AllReadyH.cons rfl (fun K hK => ?_) ?_
              · go_simp
                go_at_call 108
                refine Calls.mono (replace_u wY w2.heap.size _ dn dc q q2 (Tr.contOf nd fr).2 HKY.out _ vb vo om oc lb (HOY.out.rd (by have := HLB2.out; omega)) HVB.out (by have := HLB.out; have := HLB2.out; omega) HIJ.out.1 HIJ.out.2 (by have := HDN4.out; omega) (by have := HLB.out; have := HLB2.out; omega) HSY.out) ?_
                rintro e wR ⟨ra, rn, rc, rfl, hoR, gr⟩
                have tkR : TK [149] wY wR := TK.grewB HKY.out gr
                have bR : Below w2.heap.size wY wR := HKY.out.base_below HSY.out gr
                have VR : Hid _ := VY.out.tk tkR (by decide)
                have RR : Hid _ := RY.out.tk tkR (by decide)
                have NR : Hid _ := NY.out.tk tkR (by decide)
                have WR : Hid (Wr wR g base vY s2 (.int .u64 (key.toNat : Int)) (.func (.func f) #[] bs)) := WY.out.tk tkR (by decide) (by decide) (by decide)
                have HTR : Hid (WTurn g (.slice pa s.length pc) w vY wR) := HTY.out.low (bR.mono B2.out.size)
                have HOR : Hid (OwnB 149 wR w.heap.size (.slice ra rn rc) (Tr.replaced (Tr.contOf nd fr).2 q q2 lb)) := hoR.mono B2.out.size
                have hSR : wR.cell? ⟨w4.heap.size, 1, none⟩ = some (.slice (some ⟨kb, off, none⟩) dn dc) ∧ wR.cell? ⟨w8.heap.size, 0, none⟩ = some (.slice ja jn jc) ∧ wR.cell? ⟨w8.heap.size, 1, none⟩ = some (.slice la ln lc) := ⟨VR.out.cell (j := 1) rfl, NR.out.cell (j := 0) rfl, NR.out.cell (j := 1) rfl⟩
                have HSR2 : Hid (∀ u u', ((wR.setCell ⟨w1.heap.size, 0, none⟩ u).setCell ⟨w1.heap.size, 1, none⟩ u').cell? ⟨w4.heap.size, 1, none⟩ = some (.slice (some ⟨kb, off, none⟩) dn dc) ∧ ((wR.setCell ⟨w1.heap.size, 0, none⟩ u).setCell ⟨w1.heap.size, 1, none⟩ u').cell? ⟨w8.heap.size, 0, none⟩ = some (.slice ja jn jc) ∧ ((wR.setCell ⟨w1.heap.size, 0, none⟩ u).setCell ⟨w1.heap.size, 1, none⟩ u').cell? ⟨w8.heap.size, 1, none⟩ = some (.slice la ln lc)) := fun u u' => by
                 obtain ⟨w8', hw8', V8', K8'⟩ := RR.out.whole2 u u'
                 rw [hw8']
                 have e1 := K8'.block w4.heap.size (by have := HZ9.out; show w4.heap.size ≠ w1.heap.size; omega)
                 have e2 := K8'.block w8.heap.size (by have := HZ9.out; show w8.heap.size ≠ w1.heap.size; omega)
                 exact ⟨(VR.out.keep e1).cell (j := 1) rfl, (NR.out.keep e2).cell (j := 0) rfl, (NR.out.keep e2).cell (j := 1) rfl⟩
                obtain ⟨g0, g1⟩ := RR.out.two
                have g2 := RR.out.frozen 0
                have g3 := RR.out.frozen 1
                clear hoR gr tkR bR
                go_simp
                refine hK.out _ _ ?_ (fun hH => ?_)
                · try dsimp only
                  exact hSR
                clear hK K
                refine tkL 8 ?_ rfl rfl (Or.inl ⟨by rfl, ?_⟩) ?_; rotate_left
                · intro w h; (try dsimp only at h); go_simp; all_goals with_reducible rfl
                simp only [sz, ss]
                refine wpAnyH_ready (rs := [9]) (by kernel_rfl) (by simp) ?_
                refine AllReadyH.cons rfl (fun K hK => ?_) ?_
                · go_simp
                  refine hK.out _ _ ?_ (fun hH => ?_)
                  · try dsimp only
                    exact HSR2.out _ _
                  clear hK K
                  refine wpAnyH_done (by kernel_rfl) ?_ _
                  clear hH
                  go_wp2
                  exact st_retT RR.out _ _ rfl rfl Tryz.underlying129 rfl (by kernel_rfl) (fun w' k' => ChgDone.yes (by rw [← HQ2.out, ← HQ0.out.1]; exact Tr.layR_ok HLy.out _ _ _) rfl ⟨OwnI.nil _ _ _, HOR.out.tk (TK.box RR.out k') (by decide)⟩ (WR.out.tk (TK.box RR.out k') (by decide) (by decide) (by decide)) (HTR.out.low (Kept.belowOf (Below.refl _ _) k' (by have := HZ.out; omega))))
                exact AllReadyH.nil
              exact AllReadyH.nil
            exact AllReadyH.nil
          exact AllReadyH.nil
        exact AllReadyH.nil
      exact AllReadyH.nil
    exact AllReadyH.nil
  exact AllReadyH.nil
end Go.Proofs.YtgbbkmdfangmmaaGreat
namespace Go.Proofs.YtgbbkmdfangmmaaGreat
set_option maxRecDepth 20000
open Go.RowKit
set_option linter.unusedVariables false
theorem change_u {T : List Itm → List Itm} {key : UInt64} {f : Nat} {bs : Array Value} {B : Nat} {J : World → Prop} (hT : Turner T f bs B J) : ∀ d, ChgSaid T key f bs B J d
 | 0 => fun w g base v s hW hJ hB fr p h1 h2 hne => absurd rfl hne
 | d + 1 => by
   intro w g base v s hW hJ hB fr p h1 h2 hne
   rcases hnd : Tr.nodeE s p with x | nd
   · refine absurd ?_ hne
     unfold Tr.nodeE at hnd
     unfold Tr.change Tr.nodeE
     simp only
     split at hnd
     case isTrue => cases hnd
     case isFalse hh => rw [if_neg hh]
   have hok := Tr.nodeE_ok hnd
   by_cases hk : nd.2 = []
   · have e : Tr.change T key (d + 1) s (fr, p) = .ok (s, (T nd.1, [])) := by unfold Tr.change; simp only [hnd]; rw [if_pos hk]
     rw [e]
     exact chg_leaf hT w g base v s hW hJ hB fr p h1 h2 nd hnd hk
   obtain ⟨kid, hkid⟩ : ∃ kid, (Tr.contOf nd fr).2.getD (Lf.way nd key) (0, 0) = kid := ⟨_, rfl⟩
   have hlt := Tr.way_lt fr key hok hk
   have hkp : 1 ≤ kid.2 ∧ kid.2 ≤ 2049 := by
    rw [← hkid, List.getD_eq_getElem?_getD, List.getElem?_eq_getElem hlt]
    exact Tr.contOf_pages fr hok _ (List.getElem_mem hlt)
   have hun : ∀ R, Tr.change T key d s kid = R → Tr.change T key (d + 1) s (fr, p) = (match R with
    | .error e => .error e
    | .ok r => match Tr.mend r.1 (Tr.contOf nd fr).2 (Lf.way nd key) r.2 with
      | .error e => .error e
      | .ok m => Tr.layR r.1 m.1 (Tr.contOf nd fr).2 m.2.1 m.2.2) := by
    intro R hR
    rw [Tr.change]
    simp only [hnd]
    rw [if_neg hk]
    simp only [hkid, hR]
    cases R with
    | error e => rfl
    | ok r => rfl
   rcases hr : Tr.change T key d s kid with x | ⟨s1, now⟩
   · have e := hun _ hr
     simp only at e
     rw [e] at hne ⊢
     exact chg_error hT w g base v s hW hJ hB fr p h1 h2 nd hnd x hk kid hkid (fun W b => by
      have h := change_u hT d W g base v s (hW.below b) (hT.stay hJ ((WTurn.of (g := g) (v := v) b).under hW hB)) hB kid.1 kid.2 hkp.1 hkp.2 (by rw [hr]; exact hne)
      rw [show ((kid.1, kid.2) : Brn) = kid from rfl, hr] at h
      exact h)
   · have e := hun _ hr
     simp only at e
     have hc := Tr.change_few hT.few d hW.few hr
     have hrec : ∀ W, Below w.heap.size w W → Calls Tryz.prog 82 #[.pointer (some ⟨g, 0, none⟩), .agg #[.int .u64 (kid.1.toNat : Int), .int .i64 kid.2]] W fun e w' => ChgDone (.ok (s1, now)) g base v (.int .u64 (key.toNat : Int)) (.func (.func f) #[] bs) W e w' := fun W b => by
      have h := change_u hT d W g base v s (hW.below b) (hT.stay hJ ((WTurn.of (g := g) (v := v) b).under hW hB)) hB kid.1 kid.2 hkp.1 hkp.2 (by rw [show ((kid.1, kid.2) : Brn) = kid from rfl, hr]; exact fun h => by cases h)
      rw [show ((kid.1, kid.2) : Brn) = kid from rfl, hr] at h
      exact h
     by_cases h2s : 2 ≤ Tr.csize now
     · rw [show Tr.mend s1 (Tr.contOf nd fr).2 (Lf.way nd key) now = .ok (now, Lf.way nd key, Lf.way nd key + 1) by unfold Tr.mend; rw [if_pos h2s]] at e
       simp only at e
       rw [e]
       exact chg_plain hT w g base v s hW hJ hB fr p h1 h2 nd hnd s1 now hk kid hkid hrec hc.few hc.pages h2s
     · by_cases hf : 0 < Lf.way nd key
       · obtain ⟨I, hI⟩ : ∃ I, Lf.way nd key = I + 1 := ⟨Lf.way nd key - 1, by omega⟩
         obtain ⟨sib, hsib⟩ : ∃ sib, (Tr.contOf nd fr).2.getD I (0, 0) = sib := ⟨_, rfl⟩
         have hm : Tr.mend s1 (Tr.contOf nd fr).2 (Lf.way nd key) now = (match Tr.nodeE s1 sib.2 with
          | .error e => .error e
          | .ok n => .ok (Tr.joined (Tr.contOf n sib.1) now, I, I + 2)) := by
          unfold Tr.mend
          rw [if_neg h2s, if_pos hf, show Lf.way nd key - 1 = I by omega, hsib, hI]
          rfl
         rcases hn2 : Tr.nodeE s1 sib.2 with x | n2
         · exfalso
           rw [hm, hn2] at e
           simp only at e
           have hx : x = 9 := by unfold Tr.nodeE at hn2; split at hn2; cases hn2; cases hn2; rfl
           rw [hx] at e
           exact hne e
         · rw [hm, hn2] at e
           simp only at e
           rw [e]
           exact chg_left hT w g base v s hW hJ hB fr p h1 h2 nd hnd s1 now hk kid hkid hrec hc.few hc.pages h2s I hI sib hsib n2 hn2
       · have h0 : Lf.way nd key = 0 := by omega
         obtain ⟨sib, hsib⟩ : ∃ sib, (Tr.contOf nd fr).2.getD 1 (0, 0) = sib := ⟨_, rfl⟩
         have hm : Tr.mend s1 (Tr.contOf nd fr).2 (Lf.way nd key) now = (match Tr.nodeE s1 sib.2 with
          | .error e => .error e
          | .ok n => .ok (Tr.joined now (Tr.contOf n sib.1), 0, 2)) := by
          unfold Tr.mend
          rw [if_neg h2s, if_neg hf, h0, Nat.zero_add, hsib]
          rfl
         rcases hn2 : Tr.nodeE s1 sib.2 with x | n2
         · exfalso
           rw [hm, hn2] at e
           simp only at e
           have hx : x = 9 := by unfold Tr.nodeE at hn2; split at hn2; cases hn2; cases hn2; rfl
           rw [hx] at e
           exact hne e
         · rw [hm, hn2] at e
           simp only at e
           rw [e]
           exact chg_right hT w g base v s hW hJ hB fr p h1 h2 nd hnd s1 now hk kid hkid hrec hc.few hc.pages h2s h0 sib hsib n2 hn2
theorem lenAt_of {w : World} {p : Addr} {a : Option Addr} {n c : Nat} (h : w.cell? p = some (.slice a n c)) : lenAt w p = n := by
 unfold lenAt
 rw [h]
theorem RootI.stop {k : Nat} {s : Pgs} {cn : Cnt} {g base b : Nat} {v kv tv : Value} {w wr : World} {kj : Nat} {sj : Pgs} {cj : Cnt} {vj : Value} {a a' : Option Addr} {n c n' c' : Nat} (h : RootI k s cn g base b v kv tv w wr kj sj cj vj a a' n c n' c') (hm : ¬ (0 < n ∨ 1 < n')) : Tr.rootOf k s cn = .ok (sj, (cj.2.head?.map (·.2)).getD 0) := by
 have hp := h.fuel.pos
 obtain ⟨j, rfl⟩ : ∃ j, kj = j + 1 := ⟨kj - 1, by omega⟩
 rw [← h.same]
 unfold Tr.rootOf
 rw [if_neg (fun e => hm (e.imp (fun e => by rw [← h.len.1]; exact List.length_pos_iff.2 e) (fun e => by rw [← h.len.2.1]; exact e)))]
theorem RootI.err {k : Nat} {s : Pgs} {cn : Cnt} {g base b : Nat} {v kv tv : Value} {w wr : World} {kj : Nat} {sj : Pgs} {cj : Cnt} {vj : Value} {a a' : Option Addr} {n c n' c' : Nat} (h : RootI k s cn g base b v kv tv w wr kj sj cj vj a a' n c n' c') (hm : cj.1 ≠ [] ∨ 1 < cj.2.length) {x : Int} (hy : Tr.lay sj cj = .error x) : Tr.rootOf k s cn = .error x := by
 have hp := h.fuel.pos
 obtain ⟨j, rfl⟩ : ∃ j, kj = j + 1 := ⟨kj - 1, by omega⟩
 rw [← h.same]
 unfold Tr.rootOf
 rw [if_pos hm]
 simp only [hy]
set_option maxHeartbeats 600000 in
theorem rootOf_u (w : World) (g base : Nat) (v : Value) (s : Pgs) (kv tv : Value) (hW : Wr w g base v s kv tv) (a a' : Option Addr) (n c n' c' : Nat) (cn : Cnt) (B : Nat) (hC : IsCnt w B (.slice a n c) (.slice a' n' c') cn) (hpg : ∀ b ∈ cn.2, 1 ≤ b.2 ∧ b.2 ≤ 2049) (k : Nat) (hF : Tr.Fuel k cn) (hn : n ≤ 1000) (hn' : n' ≤ 1000) :
 Calls Tryz.prog 67 #[.pointer (some ⟨g, 0, none⟩), .agg #[.slice a n c, .slice a' n' c']] w fun e w' => RootDone k s cn g base v kv tv w e w' := by
 obtain ⟨w1, hw1, V1, b1, z1⟩ := boxedRow w 129 [.slice a n c, .slice a' n' c']
 have e1 : n = cn.1.length := by obtain ⟨x, y, e, -⟩ := hC.items.slice; simp only [Value.slice.injEq] at e; exact e.2.1
 have e2 : n' = cn.2.length := by obtain ⟨x, y, e, -⟩ := hC.kids.slice; simp only [Value.slice.injEq] at e; exact e.2.1
 have HI0 : Hid (RootI k s cn g base w.heap.size v kv tv w w1 k s cn v a a' n c n' c') := ⟨V1, (hC.below b1).mono (Nat.zero_le _), hW.below b1, WTurn.of b1, rfl, hF, hpg, e1.symm, e2.symm, hn, hn'⟩
 clear hW hC hpg hF V1 b1 z1 e1 e2 hn hn'
 go_enter Tryz.func67, Tryz.ntmps67
 go_wp2
 go_loopw [] (fun wr => ∃ (kj : Nat) (sj : Pgs) (cj : Cnt) (vj : Value) (a a' : Option Addr) (n c n' c' : Nat), Hid (RootI k s cn g base w.heap.size v kv tv w wr kj sj cj vj a a' n c n' c')) (fun wr => 2 * lenAt wr ⟨w.heap.size, 0, none⟩ + lenAt wr ⟨w.heap.size, 1, none⟩)
 case atStart => exact ⟨k, s, cn, v, a, a', n, c, n', c', HI0⟩
 case round =>
  clear HI0 hw1
  obtain ⟨kj, sj, cj, vj, ia, ka, il, ic, kl, kc, HI⟩ := hrel
  obtain ⟨q0, q1⟩ := HI.out.row.two
  have hn : il ≤ 1000 := HI.out.len.2.2.1
  have hn' : kl ≤ 1000 := HI.out.len.2.2.2
  by_cases hm : 0 < il ∨ 1 < kl
  · have HM : Hid (cj.1 ≠ [] ∨ 1 < cj.2.length) := hm.imp (fun e e' => by rw [← HI.out.len.1, e'] at e; cases e) (fun e => by rw [HI.out.len.2.1]; exact e)
    have HR : Hid _ := HI.out.cnt.rd (by rw [HI.out.len.1]; omega) (by rw [HI.out.len.2.1]; omega)
    have hdec : (il : Int) > 0 ∨ (¬ ((il : Int) > 0) ∧ (kl : Int) > 1) := by omega
    have HLY : Hid _ := lay_u wr g base vj sj kv tv HI.out.wr_ _ ia ka il ic kl kc cj.1 cj.2 HR.out.1 HR.out.2 (HI.out.cnt.apartW HI.out.wr_) hn hn' (fun b hb => by have := HI.out.pages b hb; omega)
    clear HR hm
    rcases hdec with hz | ⟨hz, hz'⟩
    · go_wp2_with fail
      go_at_call 81
      refine Calls.mono HLY.out ?_
      rintro e w5 hdone
      rcases hy : Tr.lay sj (cj.1, cj.2) with x | ⟨s5, bs⟩
      · obtain ⟨rfl, t5⟩ := hdone.1 x hy
        exact ⟨rfl, RootDone.no (HI.out.err HM.out hy) (HI.out.turn.trans (WTurn.mk t5 (v' := vj) (fun b e => .inl e))).turn⟩
      obtain ⟨oa, om, oc, v5, rfl, ho, hW5, t5, -⟩ := hdone.2 s5 bs hy
      obtain ⟨R5, hlt, k5, hI5⟩ := HI.out.next (Nat.le_refl _) HM.out hy ho hW5 t5
      obtain ⟨p0, p1⟩ := R5.two
      have f0 := R5.frozen 0
      have f1 := R5.frozen 1
      have HI5 : Hid _ := hI5
      have HMs : Hid (2 * lenAt ((w5.setCell ⟨w.heap.size, 0, none⟩ (.slice none 0 0)).setCell ⟨w.heap.size, 1, none⟩ (.slice oa om oc)) ⟨w.heap.size, 0, none⟩ + lenAt ((w5.setCell ⟨w.heap.size, 0, none⟩ (.slice none 0 0)).setCell ⟨w.heap.size, 1, none⟩ (.slice oa om oc)) ⟨w.heap.size, 1, none⟩ < 2 * lenAt wr ⟨w.heap.size, 0, none⟩ + lenAt wr ⟨w.heap.size, 1, none⟩) := by
       unfold Hid
       rw [lenAt_of q0, lenAt_of q1, lenAt_of (hI5.row.cell (j := 0) rfl), lenAt_of (hI5.row.cell (j := 1) rfl)]
       omega
      clear R5 hI5 ho hW5 t5 hdone hlt
      go_wp2
      go_roundw
      case rel => exact ⟨k5, s5, _, v5, _, _, _, _, _, _, HI5⟩
      case measure => exact HMs.out
    · obtain rfl : il = 0 := by omega
      clear hz
      go_wp2_with fail
      go_at_call 81
      refine Calls.mono HLY.out ?_
      rintro e w5 hdone
      rcases hy : Tr.lay sj (cj.1, cj.2) with x | ⟨s5, bs⟩
      · obtain ⟨rfl, t5⟩ := hdone.1 x hy
        exact ⟨rfl, RootDone.no (HI.out.err HM.out hy) (HI.out.turn.trans (WTurn.mk t5 (v' := vj) (fun b e => .inl e))).turn⟩
      obtain ⟨oa, om, oc, v5, rfl, ho, hW5, t5, -⟩ := hdone.2 s5 bs hy
      obtain ⟨R5, hlt, k5, hI5⟩ := HI.out.next (Nat.le_refl _) HM.out hy ho hW5 t5
      obtain ⟨p0, p1⟩ := R5.two
      have f0 := R5.frozen 0
      have f1 := R5.frozen 1
      have HI5 : Hid _ := hI5
      have HMs : Hid (2 * lenAt ((w5.setCell ⟨w.heap.size, 0, none⟩ (.slice none 0 0)).setCell ⟨w.heap.size, 1, none⟩ (.slice oa om oc)) ⟨w.heap.size, 0, none⟩ + lenAt ((w5.setCell ⟨w.heap.size, 0, none⟩ (.slice none 0 0)).setCell ⟨w.heap.size, 1, none⟩ (.slice oa om oc)) ⟨w.heap.size, 1, none⟩ < 2 * lenAt wr ⟨w.heap.size, 0, none⟩ + lenAt wr ⟨w.heap.size, 1, none⟩) := by
       unfold Hid
       rw [lenAt_of q0, lenAt_of q1, lenAt_of (hI5.row.cell (j := 0) rfl), lenAt_of (hI5.row.cell (j := 1) rfl)]
       omega
      clear R5 hI5 ho hW5 t5 hdone hlt
      go_wp2
      go_roundw
      case rel => exact ⟨k5, s5, _, v5, _, _, _, _, _, _, HI5⟩
      case measure => exact HMs.out
  · have HS : Hid _ := HI.out.stop hm
    have hz : ¬ ((il : Int) > 0) := by omega
    have hz' : ¬ ((kl : Int) > 1) := by omega
    by_cases h0 : kl = 0
    · subst h0
      have hc : cj.2 = [] := List.length_eq_zero_iff.1 HI.out.len.2.1
      have HS0 : Hid (Tr.rootOf k s cn = .ok (sj, 0)) := by have h := HS.out; rw [hc] at h; exact h
      clear HS hc hm
      go_wp2
      go_ret
      exact RootDone.yes HS0.out rfl HI.out.wr_ HI.out.turn
    · have h1 : kl = 1 := by omega
      obtain ⟨b, off, rfl, -, -, hat⟩ := rBrns_at (HI.out.cnt.rd (by rw [HI.out.len.1]; omega) (by rw [HI.out.len.2.1]; omega)).2 (by omega)
      have hlen : 0 < cj.2.length := by rw [HI.out.len.2.1]; omega
      have hp := (hat 0 hlen).2
      rw [Nat.zero_mul, Nat.add_zero] at hp
      obtain ⟨q, hq⟩ : ∃ q, q = cj.2[0].2 := ⟨_, rfl⟩
      rw [← hq] at hp
      have HS1 : Hid (Tr.rootOf k s cn = .ok (sj, q)) := by
       have h := HS.out
       rw [List.head?_eq_getElem?, List.getElem?_eq_getElem hlen] at h
       rw [hq]
       exact h
      subst h1
      clear HS hat hq hm h0 hlen
      go_wp2
      go_ret
      exact RootDone.yes HS1.out rfl HI.out.wr_ HI.out.turn
set_option maxHeartbeats 2000000 in
theorem turned_u {T : List Itm → List Itm} {key : UInt64} {f : Nat} {bs : Array Value} {B : Nat} {J : World → Prop} (hT : Turner T f bs B J) (d : Nat) (w : World) (g base : Nat) (v : Value) (s : Pgs) (hW : Wr w g base v s (.int .u64 (key.toNat : Int)) (.func (.func f) #[] bs)) (hJ : J w) (hB : B ≤ g ∧ B ≤ base) (root : Int) (h0 : 0 ≤ root) (h1 : root ≤ 2049) (hne : Tr.turned T key s root d ≠ .error 9) :
 Calls Tryz.prog 68 #[.pointer (some ⟨g, 0, none⟩), .int .i64 root] w fun e w' => ChgDone (Tr.turned T key s root d) g base v (.int .u64 (key.toNat : Int)) (.func (.func f) #[] bs) w e w' := by
 obtain ⟨w1, hw1, V1r, b1, z1⟩ := boxedRow w 129 [.slice none 0 0, .slice none 0 0]
 have HT : Hid _ := hT
 have V1 : Hid _ := V1r
 have B1 : Hid _ := b1
 have W1 : Hid (Wr w1 g base v s (.int .u64 (key.toNat : Int)) (.func (.func f) #[] bs)) := hW.below b1
 have HJ1 : Hid (J w1) := hT.stay hJ ((WTurn.of (g := g) (v := v) b1).under hW hB)
 have HB : Hid (B ≤ g ∧ B ≤ base) := hB
 have HGw : Hid (g < w.heap.size) := hW.row.lt
 by_cases hr : root = 0
 · subst hr
   have e : Tr.turned T key s 0 d = .ok (s, (T [], [])) := if_pos rfl
   rw [e]
   have eg := hT.enters
   have t2 := W1.out.row.cell (j := 2) rfl
   clear e hne hT hW hJ hB V1r b1 h0 h1
   go_enter Tryz.func68, Tryz.ntmps68
   go_wp2_with fail
   go_at_fn f
   refine Calls.mono (HT.out.call HJ1.out (base := w1.heap.size) (by have := HB.out; have := HGw.out; have := B1.out.size; omega) (Nat.le_refl _) (OwnI.nil _ _ _) (by simp) rfl) ?_
   rintro e w2 ⟨ra, rn, rc, rfl, ho, gr⟩
   have tk : TK [29] w1 w2 := TK.grewI (OwnI.nil _ _ w1.heap.size) gr
   have bb : Below w1.heap.size w1 w2 := (OwnI.nil 29 w1 w1.heap.size).base_below (Nat.le_refl _) gr
   have HC2 : Hid (OwnI 29 w2 w.heap.size (.slice ra rn rc) (T [])) := ho.mono B1.out.size
   have R2 : Hid _ := V1.out.tk tk (by decide)
   have W2 : Hid (Wr w2 g base v s (.int .u64 (key.toNat : Int)) (.func (.func f) #[] bs)) := W1.out.tk tk (by decide) (by decide) (by decide)
   have B2 : Hid _ := on B1.out bb
   obtain ⟨g0, g1⟩ := R2.out.two
   have g2 := R2.out.frozen 0
   have g3 := R2.out.frozen 1
   clear ho gr tk bb
   go_wp2
   exact st_retT R2.out _ _ rfl rfl Tryz.underlying129 rfl (by kernel_rfl) (fun w' k' => ChgDone.yes rfl rfl ⟨HC2.out.tk (TK.box R2.out k') (by decide), OwnB.nil _ _ _⟩ (W2.out.tk (TK.box R2.out k') (by decide) (by decide) (by decide)) (WTurn.of (Kept.belowOf B2.out k' (Nat.le_refl _))))
 · have e : Tr.turned T key s root d = Tr.change T key d s (0, root) := if_neg hr
   rw [e] at hne ⊢
   have hc := change_u hT d w1 g base v s W1.out HJ1.out hB 0 root (by omega) h1 hne
   rw [show ((0 : UInt64).toNat : Int) = 0 from rfl] at hc
   have HC : Hid _ := hc
   have hrz : (root == 0) = false := beq_eq_false_iff_ne.2 hr
   clear e hne hT hW hJ hB V1r b1 h0 h1 hc
   generalize Tr.change T key d s (0, root) = R at *
   go_enter Tryz.func68, Tryz.ntmps68
   go_wp2_with fail
   go_at_call 82
   refine Calls.mono HC.out ?_
   rintro e w2 hd
   rcases R with x | ⟨s2, cn⟩
   · obtain ⟨rfl, t2⟩ := hd.1 x rfl
     exact ⟨rfl, ChgDone.no rfl (Turn.trans (Turn.of B1.out) t2)⟩
   · obtain ⟨ca, n, c, da, n', c', v2, rfl, hC2, hW2, t2⟩ := hd.2 s2 cn rfl
     have tk : TK [125, 72] w1 w2 := TK.turn W1.out t2.turn
     have R2 : Hid _ := V1.out.tk tk (by decide)
     have HC2 : Hid (IsCnt w2 w.heap.size (.slice ca n c) (.slice da n' c') cn) := hC2.mono B1.out.size
     have W2 : Hid _ := hW2
     have HT2 : Hid (WTurn g v w v2 w2) := (WTurn.of B1.out).trans t2
     obtain ⟨g0, g1⟩ := R2.out.two
     have g2 := R2.out.frozen 0
     have g3 := R2.out.frozen 1
     clear hd hC2 hW2 t2 tk
     go_wp2
     exact st_retT R2.out _ _ rfl rfl Tryz.underlying129 rfl (by kernel_rfl) (fun w' k' => ChgDone.yes rfl rfl (HC2.out.tk (TK.box R2.out k') (by decide) (by decide)) (W2.out.tk (TK.box R2.out k') (by decide) (by decide) (by decide)) (HT2.out.low (Kept.belowOf (Below.refl _ _) k' (Nat.le_refl _))))
end Go.Proofs.YtgbbkmdfangmmaaGreat
