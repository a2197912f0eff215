/-
  Facts that the proof rests on, part 40. Conditions: those that each of them names.
-/
import Derived.Deep.RegionHeldLaw
import Derived.Test.YtkbmadoaomoojaaGreatK30
namespace Go.Proofs.YtkbmadoaomoojaaGreat
set_option maxRecDepth 20000
open Go.RowKit
set_option linter.unusedVariables false
attribute [local go_sem] Oper.semAt_some
set_option maxHeartbeats 4000000 in
theorem chg_leaf {T : List Itm → List Itm} {key : UInt64} {f : Nat} {bs : Array Value} {B : Nat} {J : World → Prop} (hT : Turner T f bs B J) (w : World) (g base : Nat) (v : Value) (s : Pgs) (hW : Wr w g base v s (.int .u64 (key.toNat : Int)) (.func (.func f) #[] bs)) (hJ : J w) (hB : B ≤ g ∧ B ≤ base) (fr : UInt64) (p : Int) (hp1 : 1 ≤ p) (hp2 : p ≤ 2049) (nd : Nod) (hnd : Tr.nodeE s p = .ok nd) (hk : nd.2 = []) :
 Calls Tryz.prog 68 #[.pointer (some ⟨g, 0, none⟩), .agg #[.int .u64 (fr.toNat : Int), .int .i64 p]] w fun e w' => ChgDone (.ok (s, (T nd.1, []))) g base v (.int .u64 (key.toNat : Int)) (.func (.func f) #[] bs) w e w' := by
 have HKn : Hid (nd.2 = []) := hk
 clear hk
 obtain ⟨pa, pc, rfl, hpl, hpn⟩ := hW.pgs.slice
 obtain ⟨w1, hw1, V1, b1, z1⟩ := boxedRow w 133 [.int .u64 (fr.toNat : Int), .int .i64 p]
 obtain ⟨w2, hw2, V2r, b2, z2⟩ := boxedRow w1 111 [.slice none 0 0, .slice none 0 0]
 have HT : Hid _ := hT
 have B2 : Hid (Below w.heap.size w w2) := on b1 b2
 have V2 : Hid _ := V2r
 have V1b : Hid (Row w2 w.heap.size 133 [.int .u64 (fr.toNat : Int), .int .i64 p]) := V1.below b2
 have W2 : Hid (Wr w2 g base (.slice pa s.length pc) s (.int .u64 (key.toNat : Int)) (.func (.func f) #[] bs)) := hW.below B2.out
 have HW0 : Hid _ := hW
 have HZ : Hid (w1.heap.size = w.heap.size + 1) := z1
 have HZ2 : Hid (w2.heap.size = w.heap.size + 2) := by unfold Hid; omega
 have HOk : Hid (Lf.Ok nd) := Tr.nodeE_ok hnd
 have HNd : Hid (Tr.nodeE s p = .ok nd) := hnd
 have HJ0 : Hid (J w) := hJ
 have HB : Hid (B ≤ g ∧ B ≤ base) := hB
 have HGw : Hid (g < w.heap.size) := hW.row.lt
 have HSee : Hid (∀ W', Below w2.heap.size w2 W' → W'.cell? ⟨g, 0, none⟩ = some (.slice pa s.length pc) ∧ W'.cell? ⟨w.heap.size, 1, none⟩ = some (.int .i64 p)) := by
  intro W' b'
  exact ⟨(W2.out.row.below b').cell (j := 0) rfl, (V1b.out.below b').cell (j := 1) rfl⟩
 have HRd : Hid (∀ W', Below w2.heap.size w2 W' → rSectors.rd W' (fun b => base ≤ b) [.slice pa s.length pc] s) := fun W' b' => Rep.below (W2.out.pgs.rd hW.few) b'
 have h0 : -9223372036854775808 ≤ p := by omega
 have h1 : p ≤ 9223372036854775807 := by omega
 clear hW hpl hpn V1 V2r b1 b2 z1 z2 hT hnd hJ hB hp1 hp2
 go_enter Tryz.func68, Tryz.ntmps68
 go_wp2_with fail
 go_cut [5] (fun t wx => ∃ nb ia il ic ka kl kc, t = .pointer (some ⟨nb, 0, none⟩) ∧ Hid (w2.heap.size ≤ nb) ∧ Hid (Row wx nb 63 [.slice ia il ic, .slice ka kl kc]) ∧ Hid (OwnI 45 wx w2.heap.size (.slice ia il ic) nd.1) ∧ Hid (OwnK 3 wx w2.heap.size (.slice ka kl kc) nd.2) ∧ Hid (Below w2.heap.size w2 wx))
 case first =>
  refine wp_region_held_drew (S := (fun w' : World => w'.cell? ⟨g, 0, none⟩ = some (.slice pa s.length pc) ∧ w'.cell? ⟨w.heap.size, 1, none⟩ = some (.int .i64 p))) (by kernel_rfl) (HSee.out _ (Below.refl _ _).drew) (fun hH => ?_)
  refine tkM 0 _ rfl rfl ?_; simp only [sz, ss]
  refine tkM 1 _ rfl rfl ?_; simp only [sz, ss]
  refine tkM 2 _ rfl rfl ?_; simp only [sz, ss]
  refine tkM 3 _ rfl rfl ?_; simp only [sz, ss]
  refine tkM 4 _ rfl rfl ?_; simp only [sz, ss]
  refine tkM 5 _ rfl rfl ?_; simp only [sz, ss]
  refine rdL [6, 7] ?_
  refine rcL (fun K hK => ?_) ?_
  · go_simp
    go_at_call 75
    refine Calls.mono (nodeT_u _ _ pa pc s (HRd.out _ ((Below.refl _ _).drew)) p h0 h1) ?_
    rintro e w3 ⟨hb3, hok, -⟩
    have b3 : Below w2.heap.size w2 w3 := on ((Below.refl _ _).drew) hb3
    obtain ⟨ia, il, ic, ka, kl, kc, rfl, hI3, hK3⟩ := hok nd HNd.out
    have HB3 : Hid _ := b3
    have HI3 : Hid _ := hI3
    have HK3 : Hid _ := hK3
    clear hok hI3 hK3 b3 hb3
    go_simp
    refine hK.out _ _ ?_ (fun hH => ?_)
    · try dsimp only
      exact HSee.out _ HB3.out
    clear hK K
    refine r1L 7 rfl fun K hK => ?_
    · go_simp
      refine hK.out _ _ ?_ (fun hH => ?_)
      · try dsimp only
        exact HSee.out _ (below_alloc0 HB3.out _)
      clear hK K
      refine r1L 8 rfl fun K hK => ?_
      · go_simp
        refine hK.out _ _ ?_ (fun hH => ?_)
        · try dsimp only
          exact HSee.out _ (below_alloc0 HB3.out _)
        clear hK K
        refine wpAnyH_done (by kernel_rfl) ?_ _
        clear hH
        go_wp2_with fail
        go_meet
        exact ⟨w3.heap.size, ia, il, ic, ka, kl, kc, rfl, HB3.out.size, row_new _ _ _, HI3.out.below ((Below.refl _ w3).alloc (Nat.le_refl _) _), HK3.out.below ((Below.refl _ w3).alloc (Nat.le_refl _) _), below_alloc0 HB3.out _⟩
  refine rcL (fun K hK => ?_) ?_
  · have BZ : Hid (Below w2.heap.size w2 (w2.alloc (.cells #[.slice none 0 0, .slice none 0 0] 63)).drew) := ((Below.refl _ w2).alloc (Nat.le_refl _) _).drew
    have VZ : Hid (Row (w2.alloc (.cells #[.slice none 0 0, .slice none 0 0] 63)).drew w2.heap.size 63 [.slice none 0 0, .slice none 0 0]) := (row_new w2 _ _).keep rfl
    obtain ⟨wZ, hwZ⟩ : ∃ wZ, wZ = (w2.alloc (.cells #[.slice none 0 0, .slice none 0 0] 63)).drew := ⟨_, rfl⟩
    rw [← hwZ] at BZ VZ
    go_simp
    rw [← hwZ]
    clear hwZ
    refine hK.out _ _ ?_ (fun hH => ?_)
    · try dsimp only
      exact HSee.out _ BZ.out
    clear hK K
    refine r1L 6 rfl fun K hK => ?_
    · go_simp
      go_at_call 75
      refine Calls.mono (nodeT_u _ _ pa pc s (HRd.out _ (BZ.out)) p h0 h1) ?_
      rintro e w3 ⟨hb3, hok, -⟩
      have b3 : Below w2.heap.size w2 w3 := on (BZ.out) hb3
      obtain ⟨ia, il, ic, ka, kl, kc, rfl, hI3, hK3⟩ := hok nd HNd.out
      have HB3 : Hid _ := b3
      have VC : Hid _ := VZ.out.below hb3
      have hlt : Hid (w2.heap.size < wZ.heap.size) := VZ.out.lt
      have HI3 : Hid _ := hI3
      have HK3 : Hid _ := hK3
      obtain ⟨g0, g1⟩ := VC.out.two
      have g2 := VC.out.frozen 0
      have g3 := VC.out.frozen 1
      clear hok hI3 hK3 b3 hb3
      go_simp
      refine hK.out _ _ ?_ (fun hH => ?_)
      · try dsimp only
        exact HSee.out _ HB3.out
      clear hK K
      refine r1L 8 rfl fun K hK => ?_
      · go_simp
        refine hK.out _ _ ?_ (fun hH => ?_)
        · try dsimp only
          exact HSee.out _ ((HB3.out.setCell (p := ⟨w2.heap.size, 0, none⟩) (Nat.le_refl _) _).setCell (p := ⟨w2.heap.size, 1, none⟩) (Nat.le_refl _) _)
        clear hK K
        refine wpAnyH_done (by kernel_rfl) ?_ _
        clear hH
        go_wp2_with fail
        go_meet
        obtain ⟨w9, hw9, V9, K9⟩ := VC.out.whole2 (.slice ia il ic) (.slice ka kl kc)
        rw [hw9]
        exact ⟨w2.heap.size, ia, il, ic, ka, kl, kc, rfl, Nat.le_refl _, V9, (HI3.out.keptL K9 hlt.out).mono (Nat.le_of_lt hlt.out), (HK3.out.keptL K9 hlt.out).mono (Nat.le_of_lt hlt.out), Kept.belowOf HB3.out K9 (Nat.le_refl _)⟩
  exact rnL
 case rest =>
  obtain ⟨nb, ia, il, ic, ka, kl, kc, rfl, HNb, RN, HI, HK, HB3⟩ := hcut
  obtain ⟨w3, hw3⟩ : ∃ w3, w3 = wc := ⟨_, rfl⟩
  subst hw3
  obtain ⟨r0, r1⟩ := (V1b.out.below HB3.out).two
  obtain ⟨q0, q1⟩ := RN.out.two
  have HKL : Hid (kl = nd.2.length) := by obtain ⟨x, y, e, -⟩ := HK.out.slice; simp only [Value.slice.injEq] at e; exact e.2.1
  clear HSee HRd V1b
  go_wp2_with fail
  go_at_call 80
  refine Calls.mono (contentOf_u _ w2.heap.size ia ka il ic kl kc nd.1 nd.2 fr HI.out HK.out HOk.out.few (Tr.shape HOk.out) HB3.out.size) ?_
  rintro e w4 ⟨ca, cn, cc, da, dn, dc, rfl, hC4, b4⟩
  obtain ⟨w5, hw5, V5r, b5, z5⟩ := boxedRow w4 111 [.slice ca cn cc, .slice da dn dc]
  have B5 : Hid (Below w2.heap.size w2 w5) := on (on HB3.out b4) b5
  have HC5 : Hid (IsCnt w5 w2.heap.size (.slice ca cn cc) (.slice da dn dc) (Tr.contOf nd fr)) := hC4.below b5
  have RN5 : Hid _ := (RN.out.below b4).below b5
  have HI5 : Hid _ := (HI.out.below b4).below b5
  have V5 : Hid _ := V5r
  have HZ5 : Hid (w2.heap.size ≤ w4.heap.size ∧ w5.heap.size = w4.heap.size + 1) := ⟨(on HB3.out b4).size, z5⟩
  clear r0 r1 q0 q1 RN HI HK HB3 hC4 b4 b5 V5r z5
  obtain ⟨q0, q1⟩ := RN5.out.two
  go_wp2_with fail
  go_at_call 47
  refine (isLeafT_u _ _ _ _ _).mono ?_
  rintro e w6 ⟨rfl, b6⟩
  have B6 : Hid _ := on B5.out b6
  have HC6 : Hid _ := HC5.out.below b6
  have RN6 : Hid _ := RN5.out.below b6
  have HI6 : Hid _ := HI5.out.below b6
  have V6 : Hid _ := V5.out.below b6
  have R6 : Hid _ := V2.out.below B6.out
  have W6 : Hid _ := W2.out.below B6.out
  have HB0 : Hid _ := on B2.out B6.out
  have HJ6 : Hid (J w6) := HT.out.stay HJ0.out ((WTurn.of (g := g) HB0.out).under HW0.out HB.out)
  clear q0 q1 b6 B5 HC5 RN5 HI5 V5 W2 V2 hw5 hw1 hw2
  obtain rfl : kl = 0 := by rw [HKL.out, HKn.out]; rfl
  have HCI : Hid (OwnI 45 w6 w2.heap.size (.slice ca cn cc) nd.1) := by have h := HC6.out.items; rw [Tr.contOf_leaf fr HKn.out] at h; exact h
  have HSee4 : Hid (∀ W', Below w6.heap.size w6 W' → W'.cell? ⟨g, 2, none⟩ = some (.func (.func f) #[] bs) ∧ W'.cell? ⟨w4.heap.size, 0, none⟩ = some (.slice ca cn cc)) := fun W' b' => ⟨(W6.out.row.below b').cell (j := 2) rfl, (V6.out.below b').cell (j := 0) rfl⟩
  have eg := HT.out.enters
  clear HC6 RN6 HI6
  go_wp2_with fail
  refine wp_region_held_drew (S := (fun w' : World => w'.cell? ⟨g, 2, none⟩ = some (.func (.func f) #[] bs) ∧ w'.cell? ⟨w4.heap.size, 0, none⟩ = some (.slice ca cn cc))) (by kernel_rfl) (HSee4.out _ (Below.refl _ _).drew) (fun hH => ?_)
  refine tkM 0 _ rfl rfl ?_; simp only [sz, ss]
  refine tkM 1 _ rfl rfl ?_; simp only [sz, ss]
  refine tkM 2 _ rfl rfl ?_; simp only [sz, ss]
  refine tkM 3 _ rfl rfl ?_; simp only [sz, ss]
  refine tkM 4 _ rfl rfl ?_; simp only [sz, ss]
  refine tkM 5 _ rfl rfl ?_; simp only [sz, ss]
  refine r1L 6 rfl fun K hK => ?_
  · go_simp
    go_at_fn f
    refine Calls.mono (HT.out.call (w := w6.drew) (HT.out.stay HJ6.out ((Below.refl _ _).drew)) (base := w2.heap.size) (by have := HB.out; have := HGw.out; have := B2.out.size; omega) B6.out.size (HCI.out.below (Below.refl _ _).drew) HOk.out.few HOk.out.rises) ?_
    rintro e w7 ⟨ra, rn, rc, rfl, ho, gr⟩
    have tk : TK [45] w6 w7 := (TK.of (Below.refl _ _).drew _).trans (TK.grewI (HCI.out.below (Below.refl _ _).drew) gr)
    have bb : Below w2.heap.size w6.drew w7 := (HCI.out.below (Below.refl _ _).drew).base_below B6.out.size gr
    have HC7 : Hid _ := ho
    have R7 : Hid _ := R6.out.tk tk (by decide)
    have W7 : Hid (Wr w7 g base (.slice pa s.length pc) s (.int .u64 (key.toNat : Int)) (.func (.func f) #[] bs)) := W6.out.tk tk (by decide) (by decide) (by decide)
    have V7 : Hid _ := V6.out.tk tk (by decide)
    have B7 : Hid (Below w.heap.size w w7) := HB0.out.drew.trans (bb.mono B2.out.size)
    have hS7 : w7.cell? ⟨g, 2, none⟩ = some (.func (.func f) #[] bs) ∧ w7.cell? ⟨w4.heap.size, 0, none⟩ = some (.slice ca cn cc) := ⟨W7.out.row.cell (j := 2) rfl, V7.out.cell (j := 0) rfl⟩
    obtain ⟨g0, g1⟩ := R7.out.two
    have g2 := R7.out.frozen 0
    have g3 := R7.out.frozen 1
    have HS8 : Hid (∀ u u', ((w7.setCell ⟨w1.heap.size, 0, none⟩ u).setCell ⟨w1.heap.size, 1, none⟩ u').cell? ⟨g, 2, none⟩ = some (.func (.func f) #[] bs) ∧ ((w7.setCell ⟨w1.heap.size, 0, none⟩ u).setCell ⟨w1.heap.size, 1, none⟩ u').cell? ⟨w4.heap.size, 0, none⟩ = some (.slice ca cn cc)) := fun u u' => by
     obtain ⟨w8, hw8, V8, K8⟩ := R7.out.whole2 u u'
     rw [hw8]
     exact ⟨(W7.out.row.keep (K8.block g (by have := HGw.out; have := HZ.out; show g ≠ w1.heap.size; omega))).cell (j := 2) rfl, (V7.out.keep (K8.block _ (by have := HZ.out; have := HZ2.out; have := HZ5.out; show w4.heap.size ≠ w1.heap.size; omega))).cell (j := 0) rfl⟩
    clear ho gr tk bb
    go_simp
    refine hK.out _ _ ?_ (fun hH => ?_)
    · try dsimp only
      exact hS7
    clear hK K
    refine tkM 7 _ rfl rfl ?_; simp only [sz, ss]
    refine r1L 8 rfl fun K hK => ?_
    · go_simp
      refine hK.out _ _ ?_ (fun hH => ?_)
      · try dsimp only
        exact HS8.out _ _
      clear hK K
      refine wpAnyH_done (by kernel_rfl) ?_ _
      clear hH
      go_wp2
      exact st_retT R7.out _ _ rfl rfl Tryz.underlying111 rfl (by kernel_rfl) (fun w' k' => ChgDone.yes rfl rfl ⟨(HC7.out.mono (by have := B2.out.size; exact this)).tk (TK.box R7.out k') (by decide), OwnB.nil _ _ _⟩ (W7.out.tk (TK.box R7.out k') (by decide) (by decide) (by decide)) (WTurn.of (Kept.belowOf B7.out k' (by have := HZ.out; omega))))
end Go.Proofs.YtkbmadoaomoojaaGreat
namespace Go.Proofs.YtkbmadoaomoojaaGreat
set_option maxRecDepth 20000
open Go.RowKit
set_option linter.unusedVariables false
theorem lenAt_of {w : World} {p : Addr} {a : Option Addr} {n c : Nat} (h : w.cell? p = some (.slice a n c)) : lenAt w p = n := by
 unfold lenAt
 rw [h]
theorem RootI.stop {k : Nat} {s : Pgs} {cn : Cnt} {g base b : Nat} {v kv tv : Value} {w wr : World} {kj : Nat} {sj : Pgs} {cj : Cnt} {vj : Value} {a a' : Option Addr} {n c n' c' : Nat} (h : RootI k s cn g base b v kv tv w wr kj sj cj vj a a' n c n' c') (hm : ¬ (0 < n ∨ 1 < n')) : Tr.rootOf k s cn = .ok (sj, (cj.2.head?.map (·.2)).getD 0) := by
 have hp := h.fuel.pos
 obtain ⟨j, rfl⟩ : ∃ j, kj = j + 1 := ⟨kj - 1, by omega⟩
 rw [← h.same]
 unfold Tr.rootOf
 rw [if_neg (fun e => hm (e.imp (fun e => by rw [← h.len.1]; exact List.length_pos_iff.2 e) (fun e => by rw [← h.len.2.1]; exact e)))]
theorem RootI.err {k : Nat} {s : Pgs} {cn : Cnt} {g base b : Nat} {v kv tv : Value} {w wr : World} {kj : Nat} {sj : Pgs} {cj : Cnt} {vj : Value} {a a' : Option Addr} {n c n' c' : Nat} (h : RootI k s cn g base b v kv tv w wr kj sj cj vj a a' n c n' c') (hm : cj.1 ≠ [] ∨ 1 < cj.2.length) {x : Int} (hy : Tr.lay sj cj = .error x) : Tr.rootOf k s cn = .error x := by
 have hp := h.fuel.pos
 obtain ⟨j, rfl⟩ : ∃ j, kj = j + 1 := ⟨kj - 1, by omega⟩
 rw [← h.same]
 unfold Tr.rootOf
 rw [if_pos hm]
 simp only [hy]
set_option maxHeartbeats 600000 in
theorem rootOf_u (w : World) (g base : Nat) (v : Value) (s : Pgs) (kv tv : Value) (hW : Wr w g base v s kv tv) (a a' : Option Addr) (n c n' c' : Nat) (cn : Cnt) (B : Nat) (hC : IsCnt w B (.slice a n c) (.slice a' n' c') cn) (hpg : ∀ b ∈ cn.2, 1 ≤ b.2 ∧ b.2 ≤ 2049) (k : Nat) (hF : Tr.Fuel k cn) (hn : n ≤ 1000) (hn' : n' ≤ 1000) :
 Calls Tryz.prog 52 #[.pointer (some ⟨g, 0, none⟩), .agg #[.slice a n c, .slice a' n' c']] w fun e w' => RootDone k s cn g base v kv tv w e w' := by
 obtain ⟨w1, hw1, V1, b1, z1⟩ := boxedRow w 111 [.slice a n c, .slice a' n' c']
 have e1 : n = cn.1.length := by obtain ⟨x, y, e, -⟩ := hC.items.slice; simp only [Value.slice.injEq] at e; exact e.2.1
 have e2 : n' = cn.2.length := by obtain ⟨x, y, e, -⟩ := hC.kids.slice; simp only [Value.slice.injEq] at e; exact e.2.1
 have HI0 : Hid (RootI k s cn g base w.heap.size v kv tv w w1 k s cn v a a' n c n' c') := ⟨V1, (hC.below b1).mono (Nat.zero_le _), hW.below b1, WTurn.of b1, rfl, hF, hpg, e1.symm, e2.symm, hn, hn'⟩
 clear hW hC hpg hF V1 b1 z1 e1 e2 hn hn'
 go_enter Tryz.func52, Tryz.ntmps52
 go_wp2
 go_loopw [] (fun wr => ∃ (kj : Nat) (sj : Pgs) (cj : Cnt) (vj : Value) (a a' : Option Addr) (n c n' c' : Nat), Hid (RootI k s cn g base w.heap.size v kv tv w wr kj sj cj vj a a' n c n' c')) (fun wr => 2 * lenAt wr ⟨w.heap.size, 0, none⟩ + lenAt wr ⟨w.heap.size, 1, none⟩)
 case atStart => exact ⟨k, s, cn, v, a, a', n, c, n', c', HI0⟩
 case round =>
  clear HI0 hw1
  obtain ⟨kj, sj, cj, vj, ia, ka, il, ic, kl, kc, HI⟩ := hrel
  obtain ⟨q0, q1⟩ := HI.out.row.two
  have hn : il ≤ 1000 := HI.out.len.2.2.1
  have hn' : kl ≤ 1000 := HI.out.len.2.2.2
  by_cases hm : 0 < il ∨ 1 < kl
  · have HM : Hid (cj.1 ≠ [] ∨ 1 < cj.2.length) := hm.imp (fun e e' => by rw [← HI.out.len.1, e'] at e; cases e) (fun e => by rw [HI.out.len.2.1]; exact e)
    have HR : Hid _ := HI.out.cnt.rd (by rw [HI.out.len.1]; omega) (by rw [HI.out.len.2.1]; omega)
    have hdec : (il : Int) > 0 ∨ (¬ ((il : Int) > 0) ∧ (kl : Int) > 1) := by omega
    have HLY : Hid _ := lay_u wr g base vj sj kv tv HI.out.wr_ _ ia ka il ic kl kc cj.1 cj.2 HR.out.1 HR.out.2 (HI.out.cnt.apartW HI.out.wr_) hn hn' (fun b hb => by have := HI.out.pages b hb; omega)
    clear HR hm
    rcases hdec with hz | ⟨hz, hz'⟩
    · go_wp2_with fail
      go_at_call 67
      refine Calls.mono HLY.out ?_
      rintro e w5 hdone
      rcases hy : Tr.lay sj (cj.1, cj.2) with x | ⟨s5, bs⟩
      · obtain ⟨rfl, t5⟩ := hdone.1 x hy
        exact ⟨rfl, RootDone.no (HI.out.err HM.out hy) (HI.out.turn.trans (WTurn.mk t5 (v' := vj) (fun b e => .inl e))).turn⟩
      obtain ⟨oa, om, oc, v5, rfl, ho, hW5, t5, -⟩ := hdone.2 s5 bs hy
      obtain ⟨R5, hlt, k5, hI5⟩ := HI.out.next (Nat.le_refl _) HM.out hy ho hW5 t5
      obtain ⟨p0, p1⟩ := R5.two
      have f0 := R5.frozen 0
      have f1 := R5.frozen 1
      have HI5 : Hid _ := hI5
      have HMs : Hid (2 * lenAt ((w5.setCell ⟨w.heap.size, 0, none⟩ (.slice none 0 0)).setCell ⟨w.heap.size, 1, none⟩ (.slice oa om oc)) ⟨w.heap.size, 0, none⟩ + lenAt ((w5.setCell ⟨w.heap.size, 0, none⟩ (.slice none 0 0)).setCell ⟨w.heap.size, 1, none⟩ (.slice oa om oc)) ⟨w.heap.size, 1, none⟩ < 2 * lenAt wr ⟨w.heap.size, 0, none⟩ + lenAt wr ⟨w.heap.size, 1, none⟩) := by
       unfold Hid
       rw [lenAt_of q0, lenAt_of q1, lenAt_of (hI5.row.cell (j := 0) rfl), lenAt_of (hI5.row.cell (j := 1) rfl)]
       omega
      clear R5 hI5 ho hW5 t5 hdone hlt
      go_wp2
      go_roundw
      case rel => exact ⟨k5, s5, _, v5, _, _, _, _, _, _, HI5⟩
      case measure => exact HMs.out
    · obtain rfl : il = 0 := by omega
      clear hz
      go_wp2_with fail
      go_at_call 67
      refine Calls.mono HLY.out ?_
      rintro e w5 hdone
      rcases hy : Tr.lay sj (cj.1, cj.2) with x | ⟨s5, bs⟩
      · obtain ⟨rfl, t5⟩ := hdone.1 x hy
        exact ⟨rfl, RootDone.no (HI.out.err HM.out hy) (HI.out.turn.trans (WTurn.mk t5 (v' := vj) (fun b e => .inl e))).turn⟩
      obtain ⟨oa, om, oc, v5, rfl, ho, hW5, t5, -⟩ := hdone.2 s5 bs hy
      obtain ⟨R5, hlt, k5, hI5⟩ := HI.out.next (Nat.le_refl _) HM.out hy ho hW5 t5
      obtain ⟨p0, p1⟩ := R5.two
      have f0 := R5.frozen 0
      have f1 := R5.frozen 1
      have HI5 : Hid _ := hI5
      have HMs : Hid (2 * lenAt ((w5.setCell ⟨w.heap.size, 0, none⟩ (.slice none 0 0)).setCell ⟨w.heap.size, 1, none⟩ (.slice oa om oc)) ⟨w.heap.size, 0, none⟩ + lenAt ((w5.setCell ⟨w.heap.size, 0, none⟩ (.slice none 0 0)).setCell ⟨w.heap.size, 1, none⟩ (.slice oa om oc)) ⟨w.heap.size, 1, none⟩ < 2 * lenAt wr ⟨w.heap.size, 0, none⟩ + lenAt wr ⟨w.heap.size, 1, none⟩) := by
       unfold Hid
       rw [lenAt_of q0, lenAt_of q1, lenAt_of (hI5.row.cell (j := 0) rfl), lenAt_of (hI5.row.cell (j := 1) rfl)]
       omega
      clear R5 hI5 ho hW5 t5 hdone hlt
      go_wp2
      go_roundw
      case rel => exact ⟨k5, s5, _, v5, _, _, _, _, _, _, HI5⟩
      case measure => exact HMs.out
  · have HS : Hid _ := HI.out.stop hm
    have hz : ¬ ((il : Int) > 0) := by omega
    have hz' : ¬ ((kl : Int) > 1) := by omega
    by_cases h0 : kl = 0
    · subst h0
      have hc : cj.2 = [] := List.length_eq_zero_iff.1 HI.out.len.2.1
      have HS0 : Hid (Tr.rootOf k s cn = .ok (sj, 0)) := by have h := HS.out; rw [hc] at h; exact h
      clear HS hc hm
      go_wp2
      go_ret
      exact RootDone.yes HS0.out rfl HI.out.wr_ HI.out.turn
    · have h1 : kl = 1 := by omega
      obtain ⟨b, off, rfl, -, -, hat⟩ := rBrns_at (HI.out.cnt.rd (by rw [HI.out.len.1]; omega) (by rw [HI.out.len.2.1]; omega)).2 (by omega)
      have hlen : 0 < cj.2.length := by rw [HI.out.len.2.1]; omega
      have hp := (hat 0 hlen).2
      rw [Nat.zero_mul, Nat.add_zero] at hp
      obtain ⟨q, hq⟩ : ∃ q, q = cj.2[0].2 := ⟨_, rfl⟩
      rw [← hq] at hp
      have HS1 : Hid (Tr.rootOf k s cn = .ok (sj, q)) := by
       have h := HS.out
       rw [List.head?_eq_getElem?, List.getElem?_eq_getElem hlen] at h
       rw [hq]
       exact h
      subst h1
      clear HS hat hq hm h0 hlen
      go_wp2
      go_ret
      exact RootDone.yes HS1.out rfl HI.out.wr_ HI.out.turn
set_option maxHeartbeats 2000000 in
theorem turnedF_u {T : List Itm → List Itm} {key : UInt64} {f : Nat} {bs : Array Value} {B : Nat} {J : World → Prop} (hT : Turner T f bs B J) (w : World) (g base : Nat) (v : Value) (s : Pgs) (hW : Wr w g base v s (.int .u64 (key.toNat : Int)) (.func (.func f) #[] bs)) (hJ : J w) (hB : B ≤ g ∧ B ≤ base) (root : Int) (h0 : 0 ≤ root) (h1 : root ≤ 2049) (hlf : root ≠ 0 → ∃ nd, Tr.nodeE s root = .ok nd ∧ nd.2 = []) (hne : Tr.turned T key s root 16 ≠ .error 9) :
 Calls Tryz.prog 53 #[.pointer (some ⟨g, 0, none⟩), .int .i64 root] w fun e w' => ChgDone (Tr.turned T key s root 16) g base v (.int .u64 (key.toNat : Int)) (.func (.func f) #[] bs) w e w' := by
 obtain ⟨w1, hw1, V1r, b1, z1⟩ := boxedRow w 111 [.slice none 0 0, .slice none 0 0]
 have HT : Hid _ := hT
 have V1 : Hid _ := V1r
 have B1 : Hid _ := b1
 have W1 : Hid (Wr w1 g base v s (.int .u64 (key.toNat : Int)) (.func (.func f) #[] bs)) := hW.below b1
 have HJ1 : Hid (J w1) := hT.stay hJ ((WTurn.of (g := g) (v := v) b1).under hW hB)
 have HB : Hid (B ≤ g ∧ B ≤ base) := hB
 have HGw : Hid (g < w.heap.size) := hW.row.lt
 by_cases hr : root = 0
 · subst hr
   have e : Tr.turned T key s 0 16 = .ok (s, (T [], [])) := if_pos rfl
   rw [e]
   have eg := hT.enters
   have t2 := W1.out.row.cell (j := 2) rfl
   clear e hne hlf hT hW hJ hB V1r b1 h0 h1
   go_enter Tryz.func53, Tryz.ntmps53
   go_wp2_with fail
   go_at_fn f
   refine Calls.mono (HT.out.call HJ1.out (base := w1.heap.size) (by have := HB.out; have := HGw.out; have := B1.out.size; omega) (Nat.le_refl _) (OwnI.nil _ _ _) (by simp) rfl) ?_
   rintro e w2 ⟨ra, rn, rc, rfl, ho, gr⟩
   have tk : TK [45] w1 w2 := TK.grewI (OwnI.nil _ _ w1.heap.size) gr
   have bb : Below w1.heap.size w1 w2 := (OwnI.nil 45 w1 w1.heap.size).base_below (Nat.le_refl _) gr
   have HC2 : Hid (OwnI 45 w2 w.heap.size (.slice ra rn rc) (T [])) := ho.mono B1.out.size
   have R2 : Hid _ := V1.out.tk tk (by decide)
   have W2 : Hid (Wr w2 g base v s (.int .u64 (key.toNat : Int)) (.func (.func f) #[] bs)) := W1.out.tk tk (by decide) (by decide) (by decide)
   have B2 : Hid _ := on B1.out bb
   obtain ⟨g0, g1⟩ := R2.out.two
   have g2 := R2.out.frozen 0
   have g3 := R2.out.frozen 1
   clear ho gr tk bb
   go_wp2
   exact st_retT R2.out _ _ rfl rfl Tryz.underlying111 rfl (by kernel_rfl) (fun w' k' => ChgDone.yes rfl rfl ⟨HC2.out.tk (TK.box R2.out k') (by decide), OwnB.nil _ _ _⟩ (W2.out.tk (TK.box R2.out k') (by decide) (by decide) (by decide)) (WTurn.of (Kept.belowOf B2.out k' (Nat.le_refl _))))
 · have e : Tr.turned T key s root 16 = Tr.change T key 16 s (0, root) := if_neg hr
   rw [e] at hne ⊢
   obtain ⟨nd, hnd, hnk⟩ := hlf hr
   have hch : Tr.change T key 16 s (0, root) = .ok (s, (T nd.1, [])) := by
    show Tr.change T key (15 + 1) s (0, root) = _
    unfold Tr.change
    simp only [hnd]
    rw [if_pos hnk]
   have hc := chg_leaf hT w1 g base v s W1.out HJ1.out hB 0 root (by omega) h1 nd hnd hnk
   rw [← hch] at hc
   clear hch hnd hnk
   rw [show ((0 : UInt64).toNat : Int) = 0 from rfl] at hc
   have HC : Hid _ := hc
   have hrz : (root == 0) = false := beq_eq_false_iff_ne.2 hr
   clear e hne hlf hT hW hJ hB V1r b1 h0 h1 hc
   generalize Tr.change T key 16 s (0, root) = R at *
   go_enter Tryz.func53, Tryz.ntmps53
   go_wp2_with fail
   go_at_call 68
   refine Calls.mono HC.out ?_
   rintro e w2 hd
   rcases R with x | ⟨s2, cn⟩
   · obtain ⟨rfl, t2⟩ := hd.1 x rfl
     exact ⟨rfl, ChgDone.no rfl (Turn.trans (Turn.of B1.out) t2)⟩
   · obtain ⟨ca, n, c, da, n', c', v2, rfl, hC2, hW2, t2⟩ := hd.2 s2 cn rfl
     have tk : TK [107, 53] w1 w2 := TK.turn W1.out t2.turn
     have R2 : Hid _ := V1.out.tk tk (by decide)
     have HC2 : Hid (IsCnt w2 w.heap.size (.slice ca n c) (.slice da n' c') cn) := hC2.mono B1.out.size
     have W2 : Hid _ := hW2
     have HT2 : Hid (WTurn g v w v2 w2) := (WTurn.of B1.out).trans t2
     obtain ⟨g0, g1⟩ := R2.out.two
     have g2 := R2.out.frozen 0
     have g3 := R2.out.frozen 1
     clear hd hC2 hW2 t2 tk
     go_wp2
     exact st_retT R2.out _ _ rfl rfl Tryz.underlying111 rfl (by kernel_rfl) (fun w' k' => ChgDone.yes rfl rfl (HC2.out.tk (TK.box R2.out k') (by decide) (by decide)) (W2.out.tk (TK.box R2.out k') (by decide) (by decide) (by decide)) (HT2.out.low (Kept.belowOf (Below.refl _ _) k' (Nat.le_refl _))))
end Go.Proofs.YtkbmadoaomoojaaGreat
