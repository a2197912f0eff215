/-
  Facts that the proof rests on, part 34. Conditions: those that each of them names.
-/
import Derived.Deep.LoopGhost
import Derived.Deep.RegionHeldLaw
import Derived.OwnWalkIn
import Derived.RangeFuncLeaves
import Derived.RangeFuncNested
import Derived.Test.YtkbmadoaomoojaaGreatK32
namespace Go.Proofs.YtkbmadoaomoojaaGreat
set_option maxRecDepth 20000
open Go.RowKit Go.Shelf
set_option linter.unusedVariables false
attribute [local go_sem] Oper.semAt_some
def onlyRet (Q : Exit → Go.Act → World → Prop) : Exit → Go.Act → World → Prop
 | .ret, a, w => Q .ret a w
 | .normal, a, w => Q .normal a w
 | _, _, _ => False
structure FromR (w : World) (s : Pgs) (met : List Int) (key : UInt64) (mm : Nat) (R : List Itm) (gk : Nat) (wr : World) (L : Tr.Stk) (out : List Itm) (la : Option Addr) (ln lc : Nat) (oa : Option Addr) (on_ oc : Nat) (ds : List Deferred) : Prop where
 heavy : Tr.heavy s L ≤ gk
 few : gk ≤ 100000
 lenL : ln = L.length
 lenO : on_ = out.length
 oks : ∀ z ∈ L, Tr.OneOk s met z
 box : Row wr (w.heap.size + 1) 25 [.slice la ln lc]
 left : OwnK 3 wr w.heap.size (.slice la ln lc) (L.map Prod.fst)
 own : OwnI 45 wr w.heap.size (.slice oa on_ oc) out
 below : Below w.heap.size w wr
 marks : Marks wr w.heap.size ds
 finds : Tr.Finds s key mm R out (Tr.sits s L.reverse)
def FromI (w : World) (g : Nat) (root : Int) (s : Pgs) (met : List Int) (key : UInt64) (mm : Nat) (R : List Itm) (B : Nat) (gk : Nat) (a : Go.Act) (wr : World) : Prop :=
 ∃ (L : Tr.Stk) (out : List Itm) (la : Option Addr) (ln lc : Nat) (oa : Option Addr) (on_ oc : Nat) (ds : List Deferred) (u11 u12 u13 u14 u15 u18 u19 u20 u21 u22 u23 u24 u25 u26 u27 u28 u29 u30 u31 u32 u33 u34 u35 u36 u37 u38 u39 u40 u41 u42 u43 u44 u45 u46 u47 u48 u49 u50 u51 u52 u53 u54 u55 u56 u57 u58 u59 u60 u61 u62 u63 : Value),
   a = { tmps := #[.pointer (some ⟨g, 0, none⟩), .int .i64 root, .int .u64 (key.toNat : Int), .int .i64 (mm : Int), undef, undef, undef, undef, .slice none 0 0, .slice oa on_ oc, .pointer (some ⟨B + 1, 0, none⟩), u11, u12, u13, u14, u15, .int .i64 root, .slice (some ⟨B, 0, none⟩) 1 1, u18, u19, u20, u21, u22, u23, u24, u25, u26, u27, u28, u29, u30, u31, u32, u33, u34, u35, u36, u37, u38, u39, u40, u41, u42, u43, u44, u45, u46, u47, u48, u49, u50, u51, u52, u53, u54, u55, u56, u57, u58, u59, u60, u61, u62, u63], defers := ds } ∧ FromR w s met key mm R gk wr L out la ln lc oa on_ oc ds
set_option maxHeartbeats 2000000 in
theorem from_u (w : World) (g gm : Nat) (s : Pgs) (met : List Int) (hS : Seen w g gm s met) (root : Int) (d0 : Nat) (hz : Tr.OneOk s met (root, d0)) (h0 : -9223372036854775808 ≤ root ∧ root ≤ 9223372036854775807) (hh : Tr.wgt s (root, d0) ≤ 100000) (hits : (Tr.its s d0 root).length ≤ 100000) (key : UInt64) (mm : Nat) (hm : mm ≤ 9223372036854775807) :
 Calls Tryz.prog 28 #[.pointer (some ⟨g, 0, none⟩), .int .i64 root, .int .u64 (key.toNat : Int), .int .i64 (mm : Int)] w fun e w' => ∃ a n c, e = .returned (.slice a n c) ∧ OwnI 45 w' w.heap.size (.slice a n c) (Tr.rangeOf (Tr.its s d0 root) key mm) ∧ Below w.heap.size w w' := by
 have HSeen : Hid _ := hS
 obtain ⟨wb, hwb, Vb, bb, zb⟩ := boxedRow w 3 [.int .i64 root]
 obtain ⟨wd, hwd, Vc, bc, zc⟩ := boxedRow wb 25 [.slice (some ⟨w.heap.size, 0, none⟩) 1 1]
 rw [zb] at Vc
 obtain ⟨R, hRdef⟩ : ∃ R, R = Tr.rangeOf (Tr.its s d0 root) key mm := ⟨_, rfl⟩
 have HRl : Hid (R.length ≤ 100000) := by rw [hRdef]; exact Nat.le_trans (Tr.rangeOf_len _ _ _) hits
 have HR0 : Hid (FromR w s met key mm R (Tr.wgt s (root, d0)) wd [(root, d0)] [] (some ⟨w.heap.size, 0, none⟩) 1 1 none 0 0 []) := by
  refine ⟨by unfold Tr.heavy; simp, hh, rfl, rfl, fun z hz' => by obtain rfl := List.mem_singleton.1 hz'; exact hz, Vc, ?_, OwnI.nil _ _ _, on bb bc, trivial, ?_⟩
  · exact OwnK.below ⟨⟨rfl, .inr ⟨w.heap.size, 1, #[.int .i64 root], rfl, Nat.le_refl _, Vb.eq, Nat.le_refl _, by unfold maxLen; omega, rfl, rfl⟩⟩, fun x hx => by simp only [List.map_cons, List.map_nil, List.mem_singleton] at hx; subst hx; exact h0⟩ bc
  · rw [hRdef, show Tr.sits s [(root, d0)].reverse = Tr.its s d0 root by unfold Tr.sits; simp]
    exact Tr.Finds.start
 rw [← hRdef]
 have HZ : Hid (wb.heap.size = w.heap.size + 1) := zb
 clear hS Vb Vc bb bc zc hz hh h0 hits hRdef
 refine (callsIn_wide (n := 3)).1 (callsIn_of_wp_marks Tryz.func28 rfl trivial ?_ rfl)
 simp only [Tryz.ntmps28, List.size_toArray, List.length_cons, List.length_nil, Nat.reduceAdd, Nat.reduceSub, Array.replicate_succ, Array.replicate_zero, List.push_toArray, List.append_toArray, List.nil_append, List.cons_append]
 refine wpIn_wide.2 ?_
 refine wp_mono (Q := onlyRet (bodyPostM Fence.wide 3 Tryz.prog Tryz.f28 fun e w' => ∃ a n c, e = .returned (.slice a n c) ∧ OwnI 45 w' w.heap.size (.slice a n c) R ∧ Below w.heap.size w w')) ?_ (fun e a w h => by cases e <;> first | exact h | exact h.elim)
 go_wp2
 go_step3
 go_wp2
 go_step3
 go_wp2
 refine wp_loop_ghost (FromI w g root s met key mm R w.heap.size) (Tr.wgt s (root, d0)) ⟨[(root, d0)], [], some ⟨w.heap.size, 0, none⟩, 1, 1, none, 0, 0, [], undef, undef, undef, undef, undef, undef, undef, undef, undef, undef, undef, undef, undef, undef, undef, undef, undef, undef, undef, undef, undef, undef, undef, undef, undef, undef, undef, undef, undef, undef, undef, undef, undef, undef, undef, undef, undef, undef, undef, undef, undef, undef, undef, undef, undef, undef, undef, undef, undef, undef, undef, by first | rfl | (rw [HZ.out]) | (simp only [HZ.out]), HR0.out⟩ ?_
 clear HR0 hwb hwd zb
 intro gk act wr hrel
 obtain ⟨LL, out, la, ln, lc, oa, on_, oc, ds, u11, u12, u13, u14, u15, u18, u19, u20, u21, u22, u23, u24, u25, u26, u27, u28, u29, u30, u31, u32, u33, u34, u35, u36, u37, u38, u39, u40, u41, u42, u43, u44, u45, u46, u47, u48, u49, u50, u51, u52, u53, u54, u55, u56, u57, u58, u59, u60, u61, u62, u63, rfl, hR⟩ := hrel
 have HR : Hid _ := hR
 clear hR
 have q0 := HR.out.box.cell (j := 0) rfl
 have hLL : LL = [] ∨ ∃ L z, LL = L ++ [z] := (List.eq_nil_or_concat LL).imp id (fun ⟨L, z, h⟩ => ⟨L, z, h.trans (List.concat_eq_append ..)⟩)
 rcases hLL with rfl | ⟨L, z, rfl⟩
 · obtain rfl : ln = 0 := HR.out.lenL
   have HE : Hid (out = R) := HR.out.finds.end_
   have HMk : Hid _ := HR.out.marks
   have HOw : Hid _ := HR.out.own
   have HBw : Hid _ := HR.out.below
   clear HR
   go_wp2
   rw [Exit.noGoto_ret]
   show LeavesInM Fence.wide 3 Tryz.prog Tryz.f28 _ _ _ .returning _
   refine leaves_marks HMk.out (fun w' k' => ?_)
   exact ⟨.slice oa on_ oc, by simp [results, Tryz.f28, go_sem], _, _, _, rfl, by rw [← HE.out]; exact HOw.out.keep1 (fun b e => k'.block b (.inr (by obtain ⟨c, z, h1⟩ := HOw.out.typed b e; exact ⟨c, _, z, h1⟩))), ⟨k'.os.trans HBw.out.os, k'.tape.trans HBw.out.tape, k'.output.trans HBw.out.output, Nat.le_trans HBw.out.size k'.size, fun b hb => (k'.block b (.inl hb)).trans (HBw.out.block b hb)⟩⟩
 · obtain ⟨n, rfl⟩ : ∃ n, ln = n + 1 := ⟨L.length, by rw [HR.out.lenL, List.length_append]; rfl⟩
   have HV : Hid (Row wr (w.heap.size + 1) 25 [.slice la (n + 1) lc]) := HR.out.box
   have HO : Hid (OwnK 3 wr w.heap.size (.slice la (n + 1) lc) (L.map Prod.fst ++ [z.1])) := by have h := HR.out.left; rw [List.map_append] at h; exact h
   have HZk : Hid (Tr.OneOk s met z) := HR.out.oks z (by simp)
   have HOkL : Hid (∀ y ∈ L, Tr.OneOk s met y) := fun y hy => HR.out.oks y (by simp [hy])
   have HHz : Hid (Tr.heavy s L + Tr.wgt s z ≤ gk) := by
    have h := HR.out.heavy
    rw [Tr.heavy_append] at h
    have e : Tr.heavy s [z] = Tr.wgt s z := by unfold Tr.heavy; simp
    rw [e] at h
    exact h
   have HNL : Hid (n = L.length) := by have h := HR.out.lenL; rw [List.length_append] at h; simp at h; unfold Hid; omega
   have HNn : Hid (n ≤ 1000000) := by
    have h1 : L.length ≤ Tr.heavy s L := Tr.heavy_len (fun y hy => (HOkL.out y hy).shape.2.2.2.2)
    have h2 := HHz.out
    have h3 := HR.out.few
    have h4 := HNL.out
    unfold Hid
    omega
   have HB8 : Hid (w.heap.size ≤ w.heap.size + 1) := by unfold Hid; omega
   have HB8l : Hid (w.heap.size + 1 < wr.heap.size) := HR.out.box.lt
   have B0 : Hid (Below w.heap.size w wr) := HR.out.below
   have hpos : ((n + 1 : Nat) : Int) > 0 := by omega
   obtain ⟨m1, hm1⟩ : ∃ m1, m1 = n + 1 := ⟨_, rfl⟩
   rw [← hm1] at q0 hpos
   clear hm1
   go_wp2_with fail
   go_cut [11] from 18 to 62 (fun t wx => ∃ nb ia il ic ka kl kc, t = .pointer (some ⟨nb, 0, none⟩) ∧ Hid (Row wx nb 63 [.slice ia il ic, .slice ka kl kc]) ∧ Hid (rItms.rd wx (fun b => b < w.heap.size) [.slice ia il ic] (Tr.nodeAt s z).1) ∧ Hid (rKids.rd wx (fun b => b < w.heap.size) [.slice ka kl kc] (Tr.nodeAt s z).2) ∧ Hid (Row wx (w.heap.size + 1) 25 [.slice la n lc]) ∧ Hid (OwnK 3 wx w.heap.size (.slice la n lc) (L.map Prod.fst)) ∧ Hid (Turn [w.heap.size + 1] wr wx) ∧ Hid (Below w.heap.size w wx) ∧ Hid (wr.heap.size ≤ nb))
   case first =>
    refine wp_region_held_drew (S := (fun w' : World => w'.cell? ⟨g, 1, none⟩ = some (.map (some gm)))) (by kernel_rfl) (HSeen.out.cell _ B0.out.drew) (fun hH => ?_)
    refine tkM 0 _ rfl rfl ?_; simp only [sz, ss]
    refine tkM 1 _ rfl rfl ?_; simp only [sz, ss]
    refine tkM 2 _ rfl rfl ?_; simp only [sz, ss]
    refine tkM 3 _ rfl rfl ?_; simp only [sz, ss]
    refine rdL [4, 6] ?_
    refine rcL (fun K hK => ?_) ?_
    · go_simp
      go_at_call 46
      refine Calls.mono (takeLast_u wr.drew (w.heap.size + 1) w.heap.size n lc la (L.map Prod.fst) z.1 (HV.out.below (Below.refl _ _).drew) (HO.out.below (Below.refl _ _).drew) HNn.out) ?_
      rintro e w3 ⟨rfl, hV3, hO3, K3⟩
      have HV3 : Hid _ := hV3
      have HO3 : Hid _ := hO3
      have B3 : Hid (Below w.heap.size w w3) := Kept.belowOf B0.out.drew K3 HB8.out
      have HT3 : Hid (Turn [w.heap.size + 1] wr w3) := (Turn.of (S := [w.heap.size + 1]) ((Below.refl _ _).drew)).trans ⟨K3.os, K3.tape, K3.output, K3.size, fun b hb => K3.block b (fun e => hb.2 (by simp [e]))⟩
      have hS3 := HSeen.out.cell _ B3.out
      clear hV3 hO3 K3
      go_simp
      refine hK.out _ _ ?_ (fun hH => ?_)
      · try dsimp only
        exact hS3
      clear hK K
      refine rdL [5, 6] ?_
      refine rcL (fun K hK => ?_) ?_
      · obtain ⟨ia, il, ic, ka, kl, kc, hrun, hI, hK⟩ := HSeen.out.look w3 B3.out z HZk.out
        have HI : Hid _ := hI
        have HK : Hid _ := hK
        clear hI hK
        go_simp
        refine hK.out _ _ ?_ (fun hH => ?_)
        · try dsimp only
          exact HSeen.out.cell _ B3.out
        clear hK K
        refine r1L 6 rfl fun K hK => ?_
        · go_simp
          refine hK.out _ _ ?_ (fun hH => ?_)
          · try dsimp only
            exact HSeen.out.cell _ (below_alloc0 B3.out _)
          clear hK K
          refine r1L 7 rfl fun K hK => ?_
          · go_simp
            refine hK.out _ _ ?_ (fun hH => ?_)
            · try dsimp only
              exact HSeen.out.cell _ (below_alloc0 B3.out _)
            clear hK K
            refine wpAnyH_done (by kernel_rfl) ?_ _
            clear hH
            go_wp2_with fail
            go_meet
            exact ⟨w3.heap.size, ia, il, ic, ka, kl, kc, rfl, row_new _ _ _, Rep.below HI.out ((Below.refl _ w3).alloc (Nat.le_refl _) _), Rep.below HK.out ((Below.refl _ w3).alloc (Nat.le_refl _) _), HV3.out.below ((Below.refl _ w3).alloc (Nat.le_refl _) _), HO3.out.below ((Below.refl _ w3).alloc (Nat.le_refl _) _), HT3.out.on ((Below.refl _ w3).alloc (Nat.le_refl _) _), below_alloc0 B3.out _, HT3.out.size⟩
      refine rcL (fun K hK => ?_) ?_
      · have BZ3 : Hid (Below w3.heap.size w3 (w3.alloc (.cells #[.slice none 0 0, .slice none 0 0] 63))) := (Below.refl _ w3).alloc (Nat.le_refl _) _
        have VZ3 : Hid (Row (w3.alloc (.cells #[.slice none 0 0, .slice none 0 0] 63)) w3.heap.size 63 [.slice none 0 0, .slice none 0 0]) := row_new w3 _ _
        obtain ⟨wZ, hwZ⟩ : ∃ wZ, wZ = w3.alloc (.cells #[.slice none 0 0, .slice none 0 0] 63) := ⟨_, rfl⟩
        rw [← hwZ] at BZ3 VZ3
        have BZ : Hid _ := on B3.out BZ3.out
        go_simp
        rw [← hwZ]
        clear hwZ
        refine hK.out _ _ ?_ (fun hH => ?_)
        · try dsimp only
          exact HSeen.out.cell _ BZ.out
        clear hK K
        refine r1L 5 rfl fun K hK => ?_
        · obtain ⟨ia, il, ic, ka, kl, kc, hrun, hI, hK⟩ := HSeen.out.look wZ BZ.out z HZk.out
          have HI : Hid _ := hI
          have HK : Hid _ := hK
          clear hI hK
          obtain ⟨g0, g1⟩ := VZ3.out.two
          have g2 := VZ3.out.frozen 0
          have g3 := VZ3.out.frozen 1
          go_simp
          refine hK.out _ _ ?_ (fun hH => ?_)
          · try dsimp only
            exact HSeen.out.cell _ BZ.out
          clear hK K
          refine r1L 7 rfl fun K hK => ?_
          · go_simp
            refine hK.out _ _ ?_ (fun hH => ?_)
            · try dsimp only
              exact HSeen.out.cell _ ((BZ.out.setCell (p := ⟨w3.heap.size, 0, none⟩) B3.out.size _).setCell (p := ⟨w3.heap.size, 1, none⟩) B3.out.size _)
            clear hK K
            refine wpAnyH_done (by kernel_rfl) ?_ _
            clear hH
            go_wp2_with fail
            go_meet
            obtain ⟨w9, hw9, V9, K9⟩ := VZ3.out.whole2 (.slice ia il ic) (.slice ka kl kc)
            rw [hw9]
            have tk9 : TK [63] wZ w9 := TK.box VZ3.out K9
            have ht9 : Turn [w.heap.size + 1] wr w9 := ⟨K9.os.trans (HT3.out.on BZ3.out).os, K9.tape.trans (HT3.out.on BZ3.out).tape, K9.output.trans (HT3.out.on BZ3.out).output, Nat.le_trans (HT3.out.on BZ3.out).size K9.size, fun b hb => (K9.block b (by have h1 := hb.1; have h2 := HT3.out.size; show b ≠ w3.heap.size; omega)).trans ((HT3.out.on BZ3.out).block b hb)⟩
            exact ⟨w3.heap.size, ia, il, ic, ka, kl, kc, rfl, V9, Rep.kept HI.out K9 (fun b hb _ => by have h1 : b < w.heap.size := hb; have h2 := B3.out.size; show b ≠ w3.heap.size; omega), Rep.kept HK.out K9 (fun b hb _ => by have h1 : b < w.heap.size := hb; have h2 := B3.out.size; show b ≠ w3.heap.size; omega), (HV3.out.below BZ3.out).tk tk9 (by decide), (HO3.out.below BZ3.out).tk tk9 (by decide), ht9, Kept.belowOf BZ.out K9 B3.out.size, HT3.out.size⟩
      exact rnL
    refine rcL (fun K hK => ?_) ?_
    · have BrZ : Hid (Below wr.heap.size wr (wr.alloc (.cells #[.slice none 0 0, .slice none 0 0] 63)).drew) := ((Below.refl _ wr).alloc (Nat.le_refl _) _).drew
      have VZ : Hid (Row (wr.alloc (.cells #[.slice none 0 0, .slice none 0 0] 63)).drew wr.heap.size 63 [.slice none 0 0, .slice none 0 0]) := (row_new wr _ _).keep rfl
      obtain ⟨wZ, hwZ⟩ : ∃ wZ, wZ = (wr.alloc (.cells #[.slice none 0 0, .slice none 0 0] 63)).drew := ⟨_, rfl⟩
      rw [← hwZ] at BrZ VZ
      have BZ : Hid _ := on B0.out BrZ.out
      go_simp
      rw [← hwZ]
      clear hwZ
      refine hK.out _ _ ?_ (fun hH => ?_)
      · try dsimp only
        exact HSeen.out.cell _ BZ.out
      clear hK K
      refine r1L 4 rfl fun K hK => ?_
      · go_simp
        go_at_call 46
        refine Calls.mono (takeLast_u wZ (w.heap.size + 1) w.heap.size n lc la (L.map Prod.fst) z.1 (HV.out.below BrZ.out) (HO.out.below BrZ.out) HNn.out) ?_
        rintro e w3 ⟨rfl, hV3, hO3, K3⟩
        have HV3 : Hid _ := hV3
        have HO3 : Hid _ := hO3
        have B3 : Hid (Below w.heap.size w w3) := Kept.belowOf BZ.out K3 HB8.out
        have HT3 : Hid (Turn [w.heap.size + 1] wr w3) := (Turn.of (S := [w.heap.size + 1]) (BrZ.out)).trans ⟨K3.os, K3.tape, K3.output, K3.size, fun b hb => K3.block b (fun e => hb.2 (by simp [e]))⟩
        have VZ3 : Hid (Row w3 wr.heap.size 63 [.slice none 0 0, .slice none 0 0]) := VZ.out.keep (K3.block _ (by have := HB8l.out; show wr.heap.size ≠ w.heap.size + 1; omega))
        have hS3 := HSeen.out.cell _ B3.out
        clear hV3 hO3 K3
        go_simp
        refine hK.out _ _ ?_ (fun hH => ?_)
        · try dsimp only
          exact hS3
        clear hK K
        refine r1L 5 rfl fun K hK => ?_
        · obtain ⟨ia, il, ic, ka, kl, kc, hrun, hI, hK⟩ := HSeen.out.look w3 B3.out z HZk.out
          have HI : Hid _ := hI
          have HK : Hid _ := hK
          clear hI hK
          obtain ⟨g0, g1⟩ := VZ3.out.two
          have g2 := VZ3.out.frozen 0
          have g3 := VZ3.out.frozen 1
          go_simp
          refine hK.out _ _ ?_ (fun hH => ?_)
          · try dsimp only
            exact HSeen.out.cell _ B3.out
          clear hK K
          refine r1L 7 rfl fun K hK => ?_
          · go_simp
            refine hK.out _ _ ?_ (fun hH => ?_)
            · try dsimp only
              exact HSeen.out.cell _ ((B3.out.setCell (p := ⟨wr.heap.size, 0, none⟩) B0.out.size _).setCell (p := ⟨wr.heap.size, 1, none⟩) B0.out.size _)
            clear hK K
            refine wpAnyH_done (by kernel_rfl) ?_ _
            clear hH
            go_wp2_with fail
            go_meet
            obtain ⟨w9, hw9, V9, K9⟩ := VZ3.out.whole2 (.slice ia il ic) (.slice ka kl kc)
            rw [hw9]
            have tk9 : TK [63] w3 w9 := TK.box VZ3.out K9
            have ht9 : Turn [w.heap.size + 1] wr w9 := ⟨K9.os.trans HT3.out.os, K9.tape.trans HT3.out.tape, K9.output.trans HT3.out.output, Nat.le_trans HT3.out.size K9.size, fun b hb => (K9.block b (by have h1 := hb.1; have h2 := hb.1; show b ≠ wr.heap.size; omega)).trans (HT3.out.block b hb)⟩
            exact ⟨wr.heap.size, ia, il, ic, ka, kl, kc, rfl, V9, Rep.kept HI.out K9 (fun b hb _ => by have h1 : b < w.heap.size := hb; have h2 := B0.out.size; show b ≠ wr.heap.size; omega), Rep.kept HK.out K9 (fun b hb _ => by have h1 : b < w.heap.size := hb; have h2 := B0.out.size; show b ≠ wr.heap.size; omega), (HV3.out).tk tk9 (by decide), (HO3.out).tk tk9 (by decide), ht9, Kept.belowOf B3.out K9 B0.out.size, (Nat.le_refl _)⟩
    exact rnL
   case rest =>
    obtain ⟨nb, ia, il, ic, ka, kl, kc, rfl, RN4, HI4, HK4, HV4, HO4, HT4, B4, HNb⟩ := hcut
    obtain ⟨w4, hw4⟩ : ∃ w4, w4 = wc := ⟨_, rfl⟩
    subst hw4
    have HKL : Hid (kl = (Tr.nodeAt s z).2.length) := (rList_len HK4.out).1.symm
    have HIL : Hid (il = (Tr.nodeAt s z).1.length) := (rList_len HI4.out).1.symm
    have HShp : Hid _ := HZk.out.shape
    have HOw4 : Hid (OwnI 45 w4 w.heap.size (.slice oa on_ oc) out) := HR.out.own.keep1 (fun b e => HT4.out.block b ⟨(HR.out.own.row.lt b e).2, fun h => by
     simp only [List.mem_singleton] at h
     subst h
     obtain ⟨c, z, h1⟩ := HR.out.own.typed _ e
     rw [HR.out.box.eq] at h1
     cases h1⟩)
    have HMk4 : Hid (Marks w4 w.heap.size ds) := HR.out.marks.keep (fun r hr => HT4.out.block r ⟨(Array.getElem?_eq_some_iff.1 (HR.out.marks.low r hr).2).1, fun h => by
     simp only [List.mem_singleton] at h
     subst h
     have h1 := (HR.out.marks.low _ hr).2
     rw [HR.out.box.eq] at h1
     cases h1⟩)
    obtain ⟨r0, r1⟩ := RN4.out.two
    clear HV HO q0 hpos
    go_wp2_with fail
    go_at_call 47
    refine (isLeafT_u _ _ _ _ _).mono ?_
    rintro e w6 ⟨rfl, b6⟩
    have RN6 : Hid _ := RN4.out.below b6
    have HI6 : Hid (rItms.rd w6 (fun b => b < w.heap.size) [.slice ia il ic] (Tr.nodeAt s z).1) := Rep.below HI4.out b6
    have HK6 : Hid (rKids.rd w6 (fun b => b < w.heap.size) [.slice ka kl kc] (Tr.nodeAt s z).2) := Rep.below HK4.out b6
    have HV6 : Hid _ := HV4.out.below b6
    have HO6 : Hid _ := HO4.out.below b6
    have HOw6 : Hid _ := HOw4.out.below b6
    have HMk6 : Hid (Marks w6 w.heap.size ds) := HMk4.out.keep (fun r hr => b6.block r (Array.getElem?_eq_some_iff.1 (HMk4.out.low r hr).2).1)
    have B6 : Hid _ := on B4.out b6
    have HonO : Hid (on_ = out.length) := HR.out.lenO
    have HFd : Hid (Tr.Finds s key mm R out (Tr.sits s (L ++ [z]).reverse)) := HR.out.finds
    have HFew : Hid (gk ≤ 100000) := HR.out.few
    clear r0 r1 b6 RN4 HI4 HK4 HV4 HO4 HOw4 HMk4 B4 HT4 HR HNb HB8l B0
    obtain ⟨wo, rfl⟩ : ∃ wo, wo = wr := ⟨_, rfl⟩
    by_cases hk : (Tr.nodeAt s z).2 = []
    · have hkl : kl = 0 := by rw [HKL.out, hk]; rfl
      subst hkl
      have HF0 : Hid (Tr.Finds s key mm R out ((Tr.nodeAt s z).1 ++ Tr.sits s L.reverse)) := HFd.out.leaf HZk.out hk
      have hil3 : il ≤ 3 := by rw [HIL.out]; exact HShp.out.1
      have HW1 : Hid (1 ≤ Tr.wgt s z) := HShp.out.2.2.2.2
      obtain ⟨c0, c1⟩ := RN6.out.two
      clear hk HFd HKL HK6 HShp
      generalize (Tr.nodeAt s z).1 = ITS at *
      go_wp2_with fail
      go_loopw [9, 46] (fun t9 t46 wx => ∃ (k : Nat) (O : List Itm) (oa' : Option Addr) (on' oc' : Nat), t46 = .int .i64 (k : Int) ∧ k ≤ il ∧ t9 = .slice oa' on' oc' ∧ Hid (on' = O.length) ∧ Hid (OwnI 45 wx w.heap.size (.slice oa' on' oc') O) ∧ Hid (Tr.Finds s key mm R O (ITS.drop k ++ Tr.sits s L.reverse)) ∧ Hid (Below w.heap.size w6 wx) ∧ Hid (Row wx (w.heap.size + 1) 25 [.slice la n lc]) ∧ Hid (OwnK 3 wx w.heap.size (.slice la n lc) (L.map Prod.fst)) ∧ Hid (Marks wx w.heap.size ds)) (fun _ t46 _ => ((il : Int) - intOf t46).toNat)
      case atStart => exact ⟨0, out, oa, on_, oc, rfl, Nat.zero_le _, rfl, HonO, HOw6, HF0, Below.refl _ _, HV6, HO6, HMk6⟩
      case round =>
       clear c0 c1
       obtain ⟨k, O, oa', on', oc', rfl, hkl, rfl, HonL, HOw, HFk, HB, HV, HO, HMk⟩ := hrel
       have HO5 : Hid (O.length ≤ 100000) := Nat.le_trans HFk.out.few HRl.out
       have hon5 : on' ≤ 100000 := by rw [HonL.out]; exact HO5.out
       by_cases hki : k < il
       · have hkI : (k : Int) < (il : Int) := by omega
         have hkb : decide ((k : Int) < (il : Int)) = true := decide_eq_true hkI
         have hk0 : (0 : Int) ≤ (k : Int) := Int.natCast_nonneg _
         have hklt : k < ITS.length := by have := HIL.out; omega
         have hwk : IntKind.i64.wrap ((k : Int) + 1) = ((k + 1 : Nat) : Int) := by rw [IntKind.wrap_i64]; omega
         have HIx : Hid (rItms.rd wr (fun b => b < w.heap.size) [.slice ia il ic] ITS) := Rep.kept HI6.out (S := fun b => b < w.heap.size) ⟨HB.out.os, HB.out.tape, HB.out.output, HB.out.size, HB.out.block⟩ (fun b hb _ => hb)
         obtain ⟨gi, oi, rfl, -, -, hat⟩ := rItms_at HIx.out (by omega)
         obtain ⟨d0, d1⟩ := hat k hklt
         obtain ⟨X, hX⟩ : ∃ X, X = ITS[k] := ⟨_, rfl⟩
         rw [← hX] at d0 d1
         have HFx : Hid (Tr.Finds s key mm R O (X :: (ITS.drop (k + 1) ++ Tr.sits s L.reverse))) := by have h := HFk.out; rw [List.drop_eq_getElem_cons hklt, ← hX] at h; exact h
         obtain ⟨w8, hw8, V8, b8, z8⟩ := boxedRow wr 45 [.int .u64 (X.1.toNat : Int), .int .u64 (X.2.toNat : Int)]
         obtain ⟨e0, e1⟩ := V8.two
         have HOw8 : Hid _ := HOw.out.below b8
         have HV8 : Hid _ := HV.out.below b8
         have HO8 : Hid _ := HO.out.below b8
         have HMk8 : Hid (Marks w8 w.heap.size ds) := HMk.out.keep (fun r hr => b8.block r (Array.getElem?_eq_some_iff.1 (HMk.out.low r hr).2).1)
         have HB8 : Hid (Below w.heap.size w6 w8) := HB.out.trans (b8.mono (Nat.le_trans B6.out.size HB.out.size))
         have HS8 : Hid (w.heap.size ≤ w8.heap.size) := Nat.le_trans B6.out.size HB8.out.size
         clear hat hX HFk HIx V8 b8 z8 HOw HV HO HMk HB
         by_cases hfull : on' = mm
         · have hfI : (on' : Int) = (mm : Int) := by omega
           have hfb : decide ((on' : Int) = (mm : Int)) = true := decide_eq_true hfI
           have HE : Hid (O = R) := HFx.out.full (by rw [← HonL.out]; exact hfull)
           have HBw : Hid (Below w.heap.size w w8) := B6.out.trans HB8.out
           clear hfull
           go_wp2
           rw [Exit.noGoto_ret]
           show LeavesInM Fence.wide 3 Tryz.prog Tryz.f28 _ _ _ .returning _
           refine leaves_marks HMk8.out (fun w' k' => ?_)
           exact ⟨.slice oa' on' oc', by simp [results, Tryz.f28, go_sem], _, _, _, rfl, by rw [← HE.out]; exact HOw8.out.keep1 (fun b e => k'.block b (.inr (by obtain ⟨c, z, h1⟩ := HOw8.out.typed b e; exact ⟨c, _, z, h1⟩))), ⟨k'.os.trans HBw.out.os, k'.tape.trans HBw.out.tape, k'.output.trans HBw.out.output, Nat.le_trans HBw.out.size k'.size, fun b hb => (k'.block b (.inl hb)).trans (HBw.out.block b hb)⟩⟩
         · have hfI : ¬ ((on' : Int) = (mm : Int)) := by omega
           have hfb : decide ((on' : Int) = (mm : Int)) = false := decide_eq_false hfI
           have HLt : Hid (O.length < mm) := by have h1 := HFx.out.1; have h2 := HonL.out; unfold Hid; omega
           by_cases hx : key.toNat ≤ X.1.toNat
           · have hxI : (X.1.toNat : Int) ≥ (key.toNat : Int) := by omega
             obtain ⟨v9, w9, hr9, ho9, g9⟩ := run_append_itm HOw8.out X (by have := HO5.out; omega) HS8.out 36
             obtain ⟨a9, c9, rfl, -⟩ := ho9.slice
             have HG9 : Hid _ := g9
             have HA9 : Hid _ := (Below.refl w8.heap.size w8).alloc (Nat.le_refl _) (.cells #[.int .u64 (X.1.toNat : Int), .int .u64 (X.2.toNat : Int)] 45)
             have HOa : Hid _ := HOw8.out.below HA9.out
             have HTk9 : Hid (TK [45] (w8.alloc (.cells #[.int .u64 (X.1.toNat : Int), .int .u64 (X.2.toNat : Int)] 45)) w9) := TK.grewI HOa.out HG9.out
             have HV9 : Hid _ := (HV8.out.below HA9.out).tk HTk9.out (by decide)
             have HO9 : Hid _ := (HO8.out.below HA9.out).tk HTk9.out (by decide)
             have HMk9 : Hid (Marks w9 w.heap.size ds) := by
              have hlow := HMk8.out.low
              refine HMk8.out.keep (fun r hr => ?_)
              have hlt := (Array.getElem?_eq_some_iff.1 (hlow r hr).2).1
              rw [← HA9.out.block r hlt]
              refine HG9.out.grown.block r (Nat.lt_of_lt_of_le hlt HA9.out.size) (fun e => ?_)
              obtain ⟨c', z', h1⟩ := HOa.out.typed r e.symm
              rw [HA9.out.block r hlt, (hlow r hr).2] at h1
              cases h1
             have HB9 : Hid (Below w.heap.size w6 w9) := (HB8.out.trans (HA9.out.mono HS8.out)).trans ⟨HG9.out.grown.os, HG9.out.grown.tape, HG9.out.grown.output, HG9.out.grown.size, fun b hb => HG9.out.grown.block b (Nat.lt_of_lt_of_le hb (Nat.le_trans HS8.out HA9.out.size)) (fun e => by have := (HOa.out.row.lt b e.symm).1; omega)⟩
             have HF9 : Hid (Tr.Finds s key mm R (O ++ [X]) (ITS.drop (k + 1) ++ Tr.sits s L.reverse)) := HFx.out.take_ hx HLt.out
             obtain ⟨n9, hn9⟩ : ∃ n9, n9 = (O ++ [X]).length := ⟨_, rfl⟩
             rw [← hn9] at hr9 ho9
             have HO9w : Hid _ := ho9
             have HN9 : Hid (n9 = (O ++ [X]).length) := hn9
             have HRn9 : Hid _ := hr9
             clear g9 ho9 hn9 hx hr9
             go_wp2_with (at_builtin; refine Lib.wpList_append_run _ rfl _ _ _ _ rfl _ _ rfl rfl _ _ HRn9.out ?_)
             go_roundw
             case rel => exact ⟨k + 1, O ++ [X], a9, n9, c9, rfl, by omega, rfl, HN9, HO9w, HF9, HB9, HV9, HO9, HMk9⟩
             case measure => simp only [intOf]; omega
           · have hxI : ¬ ((X.1.toNat : Int) ≥ (key.toNat : Int)) := by omega
             have HF9 : Hid (Tr.Finds s key mm R O (ITS.drop (k + 1) ++ Tr.sits s L.reverse)) := HFx.out.skip hx
             clear hx
             go_wp2
             go_roundw
             case rel => exact ⟨k + 1, O, oa', on', oc', rfl, by omega, rfl, HonL, HOw8, HF9, HB8, HV8, HO8, HMk8⟩
             case measure => simp only [intOf]; omega
       · have hkI : ¬ ((k : Int) < (il : Int)) := by omega
         have hkb : decide ((k : Int) < (il : Int)) = false := decide_eq_false hkI
         have HFe : Hid (Tr.Finds s key mm R O (Tr.sits s L.reverse)) := by have h := HFk.out; rw [List.drop_of_length_le (by have := HIL.out; omega), List.nil_append] at h; exact h
         have HBe : Hid (Below w.heap.size w wr) := B6.out.trans HB.out
         have HLt : Hid (Tr.heavy s L < gk) := by have h1 := HHz.out; have h2 := HW1.out; unfold Hid; omega
         go_wp2
         exact ⟨Tr.heavy s L, HLt.out, L, O, la, n, lc, oa', on', oc', ds, _, _, _, _, _, _, _, _, _, _, _, _, _, _, _, _, _, _, _, _, _, _, _, _, _, _, _, _, _, _, _, _, _, _, _, _, _, _, _, _, _, _, _, _, _, _, _, _, _, _, _, rfl, ⟨Nat.le_refl _, by have h1 := HLt.out; have h2 := HFew.out; omega, HNL.out, HonL.out, HOkL.out, HV.out, HO.out, HOw.out, HBe.out, HMk.out, HFe.out⟩⟩
    · have HKn : Hid ((Tr.nodeAt s z).2 ≠ []) := hk
      have hkl : ¬ ((kl : Int) = 0) := by have := HKL.out; have : (Tr.nodeAt s z).2.length ≠ 0 := fun e => hk (List.length_eq_zero_iff.1 e); omega
      have hklb : decide ((kl : Int) = 0) = false := decide_eq_false hkl
      have hkln : ¬ (kl = 0) := by omega
      have HKz : Hid _ := HZk.out.kids hk
      obtain ⟨q, hq⟩ : ∃ q, q = Lf.way ((Tr.nodeAt s z).1, (Tr.nodeAt s z).2) key := ⟨_, rfl⟩
      have HQ : Hid (q = Lf.way (Tr.nodeAt s z) key) := hq
      have HQl : Hid (q ≤ (Tr.nodeAt s z).1.length) := by unfold Hid; rw [hq]; unfold Lf.way; exact List.length_filter_le _ _
      have HWy : Hid _ := way_u w6.drew _ ia il ic (.slice ka kl kc) (Tr.nodeAt s z).1 (Tr.nodeAt s z).2 (Rep.below HI6.out (Below.refl _ _).drew) key
      rw [← hq] at HWy
      have hqk : q < kl := by
       rw [HKL.out]
       rcases HShp.out.2.2.2.1 with e | e
       · exact absurd e hk
       · have := HQl.out; omega
      have hk4 : kl ≤ 4 := by rw [HKL.out]; exact HShp.out.2.1
      have hkc : kl ≤ kc := (rList_len HK6.out).2.1
      obtain ⟨gk2, ok2, rfl, hgw, -, hat⟩ := rKids_at HK6.out (by omega)
      have HGw : Hid (gk2 < w.heap.size) := hgw
      have HAt : Hid _ := hat
      have hq0 : (0 : Int) ≤ (q : Int) := Int.natCast_nonneg _
      have hq1 : (q : Int) ≤ (kl : Int) := by omega
      have hqn : ¬ (kc = q) := by omega
      have hSn : w6.drew.cell? ⟨nb, 0, none⟩ = some (.slice ia il ic) ∧ w6.drew.cell? ⟨nb, 1, none⟩ = some (.slice (some ⟨gk2, ok2, none⟩) kl kc) := ⟨(RN6.out.below (w' := w6.drew) (Below.refl _ _).drew).cell (j := 0) rfl, (RN6.out.below (w' := w6.drew) (Below.refl _ _).drew).cell (j := 1) rfl⟩
      clear hk hq hat hgw
      go_wp2_with fail
      refine wp_region_held_drew (S := (fun w' : World => w'.cell? ⟨nb, 0, none⟩ = some (.slice ia il ic) ∧ w'.cell? ⟨nb, 1, none⟩ = some (.slice (some ⟨gk2, ok2, none⟩) kl kc))) (by kernel_rfl) (hSn) (fun hH => ?_)
      refine tkM 0 _ rfl rfl ?_; simp only [sz, ss]
      refine tkM 1 _ rfl rfl ?_; simp only [sz, ss]
      refine tkM 2 _ rfl rfl ?_; simp only [sz, ss]
      refine tkM 3 _ rfl rfl ?_; simp only [sz, ss]
      refine r1L 4 rfl fun K hK => ?_
      · go_simp
        go_at_call 49
        refine Calls.mono HWy.out ?_
        rintro e w7 ⟨rfl, b7⟩
        have HB67 : Hid (Below w6.heap.size w6 w7) := Below.trans (Below.refl _ _).drew b7
        have RN7 : Hid _ := RN6.out.below HB67.out
        clear b7
        go_simp
        refine hK.out _ _ ?_ (fun hH => ?_)
        · try dsimp only
          exact ⟨RN7.out.cell (j := 0) rfl, RN7.out.cell (j := 1) rfl⟩
        clear hK K
        refine tkM 5 _ rfl rfl ?_; simp only [sz, ss]
        refine r1L 6 rfl fun K hK => ?_
        · go_simp
          go_at_call 48
          refine Calls.mono (backwardI_u _ _ _ _) ?_
          rintro e w8 ⟨rfl, rfl⟩
          go_simp
          refine hK.out _ _ ?_ (fun hH => ?_)
          · try dsimp only
            exact ⟨(RN7.out.below ((Below.refl _ _).alloc (Nat.le_refl _) _)).cell (j := 0) rfl, (RN7.out.below ((Below.refl _ _).alloc (Nat.le_refl _) _)).cell (j := 1) rfl⟩
          clear hK K
          refine wpAnyH_done (by kernel_rfl) ?_ _
          clear hH
          go_wp2_with fail
          obtain ⟨w8, hw8⟩ : ∃ w8, w8 = w7.alloc (.cells #[.slice (some ⟨gk2, ok2 + q, none⟩) (kl - q) (kc - q)] 25) := ⟨_, rfl⟩
          rw [← hw8]
          have HB78 : Hid (Below w7.heap.size w7 w8) := by rw [hw8]; exact (Below.refl _ _).alloc (Nat.le_refl _) _
          have HB68 : Hid _ := on HB67.out HB78.out
          have HR8 : Hid (Row w8 w7.heap.size 25 [.slice (some ⟨gk2, ok2 + q, none⟩) (kl - q) (kc - q)]) := by rw [hw8]; exact row_new w7 _ _
          have HV8 : Hid _ := HV6.out.below HB68.out
          have HO8 : Hid _ := HO6.out.below HB68.out
          have HOw8 : Hid _ := HOw6.out.below HB68.out
          have HMk8 : Hid (Marks w8 w.heap.size ds) := HMk6.out.keep (fun r hr => HB68.out.block r (Array.getElem?_eq_some_iff.1 (HMk6.out.low r hr).2).1)
          have B8 : Hid _ := on B6.out HB68.out
          have HBn : Hid (w.heap.size + 1 < w7.heap.size) := Nat.lt_of_lt_of_le HV6.out.lt HB67.out.size
          have HB8s : Hid (w7.heap.size < w8.heap.size) := HR8.out.lt
          have HW8 : Hid (w.heap.size + 1 < w8.heap.size) := HV8.out.lt
          have HGw8 : Hid (gk2 < w8.heap.size) := by have h1 := HGw.out; have h2 := HW8.out; unfold Hid; omega
          obtain ⟨zf, hzf⟩ : ∃ zf : Nat → Int, zf = fun j => (Tr.nodeAt s z).2.getD (q + j) 0 := ⟨_, rfl⟩
          have HZf : Hid (∀ (j : Nat) (h : j < ((Tr.nodeAt s z).2.drop q).length), zf j = ((Tr.nodeAt s z).2.drop q)[j]) := fun j h => by
           rw [List.length_drop] at h
           rw [hzf, List.getElem_drop]
           simp only [List.getD]
           rw [List.getElem?_eq_getElem (by omega)]
           rfl
          have HZl : Hid (((Tr.nodeAt s z).2.drop q).length = kl - q) := by unfold Hid; rw [List.length_drop, HKL.out]
          have HZi : Hid (∀ x ∈ (Tr.nodeAt s z).2.drop q, -9223372036854775808 ≤ x ∧ x ≤ 9223372036854775807) := fun x hx => by
           obtain ⟨j, hj, e⟩ := List.mem_iff_getElem.1 (List.mem_of_mem_drop hx)
           rw [← e]
           exact (HAt.out j hj).2
          have HZc : Hid (∀ j, j < kl - q → w8.cell? ⟨gk2, ok2 + q + j, none⟩ = some (.int .i64 (zf j)) ∧ -9223372036854775808 ≤ zf j ∧ zf j ≤ 9223372036854775807) := fun j hj => by
           have hj2 : q + j < (Tr.nodeAt s z).2.length := by have := HKL.out; omega
           have h1 := HAt.out (q + j) hj2
           have e : zf j = (Tr.nodeAt s z).2[q + j] := by
            rw [hzf]
            simp only [List.getD]
            rw [List.getElem?_eq_getElem hj2]
            rfl
           rw [e]
           refine ⟨?_, h1.2⟩
           rw [← h1.1, show ok2 + q + j = ok2 + (q + j) by omega]
           exact HB68.out.cell (p := ⟨gk2, ok2 + (q + j), none⟩) (by have h3 := HGw.out; have h4 := B6.out.size; show gk2 < w6.heap.size; omega)
          have HL5 : Hid (L.length ≤ 100000) := by
           have h1 : L.length ≤ Tr.heavy s L := Tr.heavy_len (fun y hy => (HOkL.out y hy).shape.2.2.2.2)
           have h2 := HHz.out
           have h3 := HFew.out
           unfold Hid
           omega
          have HG0 : Hid (FromG w w8 w7.heap.size gk2 (L.map Prod.fst) out oa on_ oc ds [] w8) := ⟨⟨la, n, lc, by rw [HNL.out, List.length_map]; rfl, HV8.out, by rw [List.map_nil, List.append_nil]; exact HO8.out⟩, HOw8.out, B8.out, rfl, fun _ _ => rfl, Nat.le_refl _⟩
          have hlq : kl - q ≤ 1000000 := by omega
          clear hw8 hzf hSn HV8 HO8 HB67 RN7 HB78
          refine (wpIn_wide (n := 3)).1 ?_
          refine wpIn_rangeFunc_ownH (F := Fence.wide) (n := 3) rfl (by decide) (gf := 65) (lb := #[.pointer (some ⟨w7.heap.size, 0, none⟩)]) rfl trivial (enters_of Tryz.func65 (by kernel_rfl) rfl)
           (backwardI_stops Fence.wide 2 trivial rfl (by decide) w7.heap.size (kl - q) (kc - q) gk2 (ok2 + q) zf (fun j hj => (HZc.out j hj).2) hlq w8 HB8s.out HGw8.out (HR8.out.cell (j := 0) rfl) (fun j hj => (HZc.out j hj).1)) KB.trans (KB.put HB8s.out HGw8.out) (Below.refl _ _) (fun _ => rfl)
           (FromG w w8 w7.heap.size gk2 (L.map Prod.fst) out oa on_ oc ds) (fun _ _ _ => False) (FromG.ownFrom HB8s.out HGw8.out B8.out.size HMk8.out) (fun _ _ _ _ _ hs _ _ => hs) HG0.out
           (fun x a' _ => a' = { tmps := #[.pointer (some ⟨g, 0, none⟩), .int .i64 root, .int .u64 (key.toNat : Int), .int .i64 (mm : Int), undef, undef, undef, undef, .slice none 0 0, .slice oa on_ oc, .pointer (some ⟨w.heap.size + 1, 0, none⟩), .pointer (some ⟨nb, 0, none⟩), u12, .int .i64 (fitI x.2), u14, u15, .int .i64 root, .slice (some ⟨w.heap.size, 0, none⟩) 1 1, u18, u19, u20, u21, u22, u23, u24, u25, u26, .agg #[.slice ia il ic, .slice (some ⟨gk2, ok2, none⟩) kl kc], .bool false, .bool true, .pointer (some ⟨nb, 1, none⟩), .slice (some ⟨gk2, ok2, none⟩) kl kc, .agg #[.slice ia il ic, .slice (some ⟨gk2, ok2, none⟩) kl kc], .int .u64 (key.toNat : Int), .int .i64 (q : Int), .slice (some ⟨gk2, ok2 + q, none⟩) (kl - q) (kc - q), .func (.func 65) #[] #[.pointer (some ⟨w7.heap.size, 0, none⟩)], .int .i64 (x.1 : Int), .int .i64 (fitI x.2), u39, u40, u41, u42, u43, u44, u45, u46, u47, u48, u49, u50, u51, u52, u53, u54, u55, u56, u57, u58, u59, u60, u61, u62, u63], defers := [] }) (fun _ _ _ _ _ _ hs _ _ => hs) ?assign ?body ?done ?stop
          case assign =>
           intro ll pre x W K hI hK
           simp only [encGivenI]
           gi_wp2
           exact hK _ _ (KeepsFrom.refl _ _) (KB.refl _ _ _) hI rfl
          case body =>
           rintro ll pre x a' W hl - hG rfl hlt
           have HG : Hid _ := hG
           obtain ⟨la', n', lc', e1, hrow, hown⟩ := hG.lists
           have c0 := hrow.cell (j := 0) rfl
           obtain ⟨v9, w9, hr9, ho9, g9⟩ := run_append_kid hown (fitI x.2) (fitI_in _) (by rw [List.length_append, List.length_map, List.length_map]; have := HL5.out; omega) HG.out.below.size 25
           obtain ⟨a9, c9, rfl, -⟩ := ho9.slice
           have HA9 : Hid (Below W.heap.size W (W.alloc (.cells #[.int .i64 (fitI x.2)] 3))) := (Below.refl _ W).alloc (Nat.le_refl _) _
           obtain ⟨n9, hn9⟩ : ∃ n9, n9 = (L.map Prod.fst ++ pre.map (fun x => fitI x.2) ++ [fitI x.2]).length := ⟨_, rfl⟩
           rw [← hn9] at hr9 ho9 g9
           have HN9 : Hid (n9 = (L.map Prod.fst).length + pre.length + 1) := by unfold Hid; rw [hn9, List.length_append, List.length_append, List.length_map]; simp
           have HRun : Hid _ := hr9
           have HM := HG.out.more (x := x) HGw.out ⟨_, _, HR8.out.eq⟩ (by have := HBn.out; omega) HW8.out HMk8.out hrow HA9.out (hown.below HA9.out) g9 ho9 HN9.out
           have hrb : Row w9 (w.heap.size + 1) 25 [.slice la' n' lc'] := hrow.tk ((TK.of HA9.out _).trans (TK.grewK (hown.below HA9.out) g9)) (by decide)
           have c1 := hrb.cell (j := 0) rfl
           have f1 := hrb.frozen 0
           have HMo : Hid _ := HM
           clear hG HG e1 hrow hown hn9 hr9 ho9 g9 HM hrb HA9 hl hlt
           gi_wp2_with (gi_at_builtin; refine wpListIn_append_run _ rfl _ _ _ _ rfl _ _ rfl rfl _ _ HRun.out ?_)
           exact HMo.out
          case done =>
           rintro D xs W hD rfl hG hdf
           obtain ⟨la', n', lc', e1, hrow, hown⟩ := hG.lists
           have HKs : Hid (L.map Prod.fst ++ (backToI zf (kl - q) (kl - q)).map (fun x => fitI x.2) = (L ++ ((Tr.kidsAt s z).drop q).reverse).map Prod.fst) := by
            have h := backToI_rev ((Tr.nodeAt s z).2.drop q) zf HZf.out HZi.out
            rw [HZl.out] at h
            unfold Hid
            rw [h, List.map_append, List.map_reverse, List.map_drop]
            unfold Tr.kidsAt
            rw [List.map_map]
            congr 2
            simp [Function.comp_def]
           have HLt : Hid (Tr.heavy s (L ++ ((Tr.kidsAt s z).drop q).reverse) < gk) := by
            have h1 := HHz.out
            have h2 : Tr.heavy s ((Tr.kidsAt s z).drop q).reverse ≤ Tr.heavy s (Tr.kidsAt s z) := by
             have e9 : Tr.heavy s (Tr.kidsAt s z) = Tr.heavy s ((Tr.kidsAt s z).take q) + Tr.heavy s ((Tr.kidsAt s z).drop q) := by rw [← Tr.heavy_append, List.take_append_drop]
             have e8 : Tr.heavy s ((Tr.kidsAt s z).drop q).reverse = Tr.heavy s ((Tr.kidsAt s z).drop q) := by unfold Tr.heavy; rw [List.map_reverse, List.sum_reverse]
             omega
            have h3 := HKz.out.2.1
            unfold Hid
            rw [Tr.heavy_append]
            omega
           have HF9 : Hid (Tr.Finds s key mm R out (Tr.sits s (L ++ ((Tr.kidsAt s z).drop q).reverse).reverse)) := by unfold Hid; rw [HQ.out]; exact HFd.out.node HZk.out HKn.out
           have HOks : Hid (∀ y ∈ L ++ ((Tr.kidsAt s z).drop q).reverse, Tr.OneOk s met y) := fun y hy => by
            rcases List.mem_append.1 hy with hy | hy
            · exact HOkL.out y hy
            · exact HKz.out.1 y (List.mem_of_mem_drop (List.mem_reverse.1 hy))
           have HMk9 : Hid (Marks W w.heap.size ({ target := .collected D, args := #[] } :: ds)) := ⟨⟨D, rfl, Nat.le_trans B8.out.size hD, hdf, fun e he h => by
            have h1 := (HMk8.out.low D ⟨e, he, h⟩).2
            have h2 := (Array.getElem?_eq_some_iff.1 h1).1
            omega⟩, HMk8.out.keep hG.marks⟩
           have HLn : Hid (n' = (L ++ ((Tr.kidsAt s z).drop q).reverse).length) := by
            unfold Hid
            rw [e1, List.length_append, List.length_reverse, List.length_drop, List.length_map, backToI_length]
            unfold Tr.kidsAt
            rw [List.length_map, HKL.out]
           rw [HKs.out] at hown
           have HRw : Hid _ := hrow
           have HOn : Hid _ := hown
           have HGg : Hid _ := hG
           clear hrow hown hG hdf e1 hD
           go_wp2
           exact ⟨Tr.heavy s (L ++ ((Tr.kidsAt s z).drop q).reverse), HLt.out, L ++ ((Tr.kidsAt s z).drop q).reverse, out, la', n', lc', oa, on_, oc, { target := .collected D, args := #[] } :: ds, _, _, _, _, _, _, _, _, _, _, _, _, _, _, _, _, _, _, _, _, _, _, _, _, _, _, _, _, _, _, _, _, _, _, _, _, _, _, _, _, _, _, _, _, _, _, _, _, _, _, _, rfl, ⟨Nat.le_refl _, by have h1 := HLt.out; have h2 := HFew.out; omega, HLn.out, HonO.out, HOks.out, HRw.out, HOn.out, HGg.out.own, HGg.out.below, HMk9.out, HF9.out⟩⟩
          case stop =>
           intro D c pre W hD hp hf
           exact hf.elim
end Go.Proofs.YtkbmadoaomoojaaGreat
