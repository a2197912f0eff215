/-
  Facts that the proof rests on, part 30. Conditions: those that each of them names.
-/
import Derived.Deep.RegionHeldLaw
import Derived.Test.YtkbmadoaomoojaaGreatK27
namespace Go.Proofs.YtkbmadoaomoojaaGreat
set_option maxRecDepth 20000
open Go.RowKit Go.Shelf
set_option linter.unusedVariables false
attribute [local go_sem] Oper.semAt_some
def LayDone (s : Pgs) (cn : Cnt) (g base : Nat) (v kv tv : Value) (w : World) (e : Ending) (w' : World) : Prop :=
 (∀ x, Tr.lay s cn = .error x → e = broke x ∧ Turn (WS g v) w w') ∧ (∀ s' bs, Tr.lay s cn = .ok (s', bs) → ∃ oa on oc v', e = .returned (.slice oa on oc) ∧ OwnB 133 w' w.heap.size (.slice oa on oc) bs ∧ Wr w' g base v' s' kv tv ∧ WTurn g v w v' w' ∧ ∀ b, (Value.slice oa on oc).ownBlock = some b → b ∉ WS g v')
set_option maxHeartbeats 8000000 in
theorem lay_u (w : World) (g base : Nat) (v : Value) (s : Pgs) (kv tv : Value) (hW : Wr w g base v s kv tv) (P : Nat → Prop) (a a' : Option Addr) (n c n' c' : Nat) (l : List Itm) (ks : List Brn) (hL : rItms.rd w P [.slice a n c] l) (hK : rBrns.rd w P [.slice a' n' c'] ks) (hP : ∀ b, P b → b ∉ WS g v)
 (hn : n ≤ 1000) (hn' : n' ≤ 1000) (hpg : ∀ b ∈ ks, -9223372036854775808 ≤ b.2 ∧ b.2 ≤ 9223372036854775807) :
 Calls Tryz.prog 67 #[.pointer (some ⟨g, 0, none⟩), .agg #[.slice a n c, .slice a' n' c']] w fun e w' => LayDone s (l, ks) g base v kv tv w e w' := by
 have HWr : Hid _ := hW
 have HP : Hid _ := hP
 have HL : Hid _ := hL
 have HK : Hid _ := hK
 have HPg : Hid _ := hpg
 obtain ⟨wa, hwa, Va, ba, za⟩ := boxedRow w 105 [.pointer (some ⟨g, 0, none⟩)]
 obtain ⟨wb, hwb, Vb, bb, zb⟩ := boxedRow wa 111 [.slice a n c, .slice a' n' c']
 obtain ⟨wc, hwc, Vc, bc, zc⟩ := boxedRow wb 109 [.slice none 0 0]
 obtain ⟨w1, hw1, V1, b1, z1⟩ := boxedRow wc 36 [.slice a n c]
 obtain ⟨wd, hwd, Vd, bd, zd⟩ := boxedRow w1 3 [.int .i64 3]
 have bcd : Below wc.heap.size wc wd := on b1 bd
 have BD : Hid (Below w.heap.size w wd) := on ba (on bb (on bc bcd))
 have RP : Hid _ := ((Va.below bb).below bc).below bcd
 have RC : Hid _ := (Vb.below bc).below bcd
 have RO : Hid (Row wd wb.heap.size 109 [.slice none 0 0]) := Vc.below bcd
 have R1 : Hid (Row wd wc.heap.size 36 [.slice a n c]) := V1.below bd
 have R2 : Hid _ := Vd
 have HZ : Hid (w.heap.size < wa.heap.size ∧ wa.heap.size < wb.heap.size ∧ wb.heap.size < wc.heap.size ∧ wc.heap.size < w1.heap.size ∧ w1.heap.size < wd.heap.size) := ⟨by omega, by omega, by omega, by omega, by omega⟩
 obtain ⟨c0, c1⟩ := (Vb.below bc).two
 have RPc : Hid _ := (Va.below bb).below bc
 have BC : Hid (Below w.heap.size w wc) := on ba (on bb bc)
 have HGw : Hid (g < w.heap.size) := hW.row.lt
 have HGd : Hid (g < wc.heap.size) := by have := HZ.out; have := HGw.out; unfold Hid; omega
 have hnw : ∀ b, w.heap.size ≤ b → b ∉ WS g v := fun b hb e => by
  rcases mem_WS.1 e with e | e
  · have := HGw.out; omega
  · have := (hW.pgs.lt b e).2; omega
 have HOb : Hid (wb.heap.size ∉ WS g v) := hnw _ (by have := HZ.out; omega)
 have HNp : Hid (w.heap.size ∉ wb.heap.size :: WS g v) := fun e => by
  rcases List.mem_cons.1 e with e | e
  · have := HZ.out; omega
  · exact hnw _ (Nat.le_refl _) e
 have HGl : Hid ((Tr.groups 3 l).length ≤ 1000) := by
  have h1 := (rList_len hL).1
  unfold Hid Tr.groups
  rw [groupsN_length]
  omega
 have HNw : Hid _ := hnw
 have RCc : Hid (Row wc wa.heap.size 111 [.slice a n c, .slice a' n' c']) := Vb.below bc
 have HNa : Hid (wa.heap.size ∉ wb.heap.size :: WS g v) := fun e => by
  rcases List.mem_cons.1 e with e | e
  · have := HZ.out; omega
  · exact hnw _ (by have := HZ.out; omega) e
 have HGl4 : Hid ((Tr.groups 4 ks).length ≤ 1000) := by
  have h1 := (rList_len hK).1
  unfold Hid Tr.groups
  rw [groupsN_length]
  omega
 have HZ1 : Hid (w1.heap.size = wc.heap.size + 1) := z1
 have BCD : Hid _ := bcd
 have HI0 : Hid (LayI g base wb.heap.size v kv tv wc wc v s (.slice none 0 0) []) := ⟨hW.below BC.out, (fun b e => .inl e), Turn.refl _ _, Vc, OwnB.nil _ _ _, (fun b e => by cases e)⟩
 clear hW hP hL hK hpg Va Vb Vc V1 Vd ba bb bc b1 bd za zb zc z1 zd bcd hnw
 refine calls_of_wpAt 3 Tryz.func67 rfl ?_
 simp only [Tryz.ntmps67, List.size_toArray, List.length_cons, List.length_nil, Nat.reduceAdd, Nat.reduceSub, Array.replicate_succ, Array.replicate_zero, List.push_toArray, List.append_toArray, List.nil_append, List.cons_append]
 refine wpAt_seq (wpAt_of (n := 3) ?_)
 gi_wp2
 refine wpAt_seq (wpAt_of (n := 3) ?_)
 gi_wp2
 refine wpAt_seq ?_
 refine wpAt_seq (wpAt_of (n := 3) ?_)
 gi_wp2_with (refine ⟨trivial, ?_⟩; gi_at_call 76; refine ((callsIn_wide (n := 3 - 1)).2 (groupsI_u _ _ _ _ _)).mono ?_; rintro e w' ⟨rfl, rfl⟩)
 obtain ⟨encs, hE, hEl, hEa⟩ := groupsI_all wc.heap.size (wc.heap.size + 1) (most := 3) (by decide) (by decide) hn HL.out
 refine wpAt_block (wpAt_hands (n := 3) Tryz.func67 (encs := encs) (by rfl) (fun _ _ => rfl) hE (fun args ha => ?_) (LayJ Tr.leafOver Tr.keyF (Tr.groups 3 l) g base wb.heap.size v kv tv wc s []) (LayX Tr.leafOver Tr.keyF (Tr.groups 3 l) g wb.heap.size v wc s []) ?_ ?_ ?_ ?_ ?_ ?_)
 rotate_left 4
 · intro j args W hj hI hD hLp
   obtain ⟨xb, xo, xn, xc, rfl, gj, hgj, hne, hrj⟩ := hEa j args hj
   simp only [List.zip_toArray, List.zip_cons_cons, List.zip_nil_right, List.foldl_toArray, List.foldl_cons, List.foldl_nil, List.setIfInBounds_toArray, List.set_cons_zero, List.set_cons_succ]
   gi_wp2
   refine ⟨trivial, ?_⟩
   intro W2 hI2 hD2 hLp2
   clear hI hD hLp W
   obtain ⟨vj, sj, oa, oc, bs, hbs, hli, hx, hy⟩ := hI2.round hgj
   have hLI : Hid _ := hli
   have hX : Hid _ := hx
   have hY : Hid _ := hy
   have hdr : Hid (Below W2.heap.size W2 W2.drew) := (Below.refl _ _).drew
   have hob : Hid (wb.heap.size ∉ WS g v) := HOb.out
   have hod : Hid (wb.heap.size < wc.heap.size) := HZ.out.2.2.1
   have hgd : Hid (g < wc.heap.size) := HGd.out
   have hbl : Hid (bs.length ≤ 10000) := by
    have h1 := (List.getElem?_eq_some_iff.1 hgj).1
    have h2 := HGl.out
    unfold Hid
    rw [hbs]
    simp only [List.length_nil]
    omega
   obtain ⟨PP, hPPd⟩ : ∃ PP : Nat → Prop, PP = fun b => b < w.heap.size ∧ b ∉ WS g v := ⟨_, rfl⟩
   have hRd : Hid (rItms.rd W2.drew PP [.slice (some ⟨xb, xo, none⟩) xn xc] gj) := by
    rw [hPPd]
    have h1 : rItms.rd w (fun b => b < w.heap.size ∧ b ∉ WS g v) [.slice (some ⟨xb, xo, none⟩) xn xc] gj := rItms.weaken hrj (fun b hb hl => ⟨hl, HP.out b hb⟩)
    have h2 := Rep.below h1 BC.out
    exact Rep.below (hLI.out.turn.rep h2 (fun b hb _ e => by
     rcases List.mem_cons.1 e with e | e
     · have := hb.1; have := HZ.out; omega
     · exact hb.2 e)) hdr.out
   have hPP : Hid (∀ b, PP b → b ∉ WS g vj) := by
    rw [hPPd]
    intro b hb e
    rcases mem_WS.1 e with e | e
    · exact hb.2 (mem_WS.2 (.inl e))
    · rcases hLI.out.place b e with k | k
      · exact hb.2 (mem_WS.2 (.inr k))
      · have := hb.1; have := HZ.out; omega
   have hxn : 0 < xn := by
    have := (rList_len hrj).1
    have := List.length_pos_iff.2 hne
    omega
   obtain ⟨ky, hky0⟩ : ∃ ky, ky = Tr.keyF gj := ⟨_, rfl⟩
   have hky : Hid (ky = Tr.keyF gj) := hky0
   clear hky0
   have hSee : Hid (∀ W', Turn (wb.heap.size :: WS g v) wc W' → W'.cell? ⟨w.heap.size, 0, none⟩ = some (.pointer (some ⟨g, 0, none⟩)) ∧ W'.cell? ⟨xb, xo, none⟩ = some (.int .u64 (ky.toNat : Int))) := by
    obtain ⟨b2, off2, e, hb1, hb2, hat⟩ := rItms_at hrj hxn
    simp only [Option.some.injEq, Addr.mk.injEq, and_true] at e
    obtain ⟨rfl, rfl⟩ := e
    have h1 := (hat 0 (List.length_pos_iff.2 hne)).1
    rw [Nat.zero_mul, Nat.add_zero] at h1
    have h2 : w.cell? ⟨xb, xo, none⟩ = some (.int .u64 (ky.toNat : Int)) := by
     rw [h1, hky.out]
     cases gj with
     | nil => exact absurd rfl hne
     | cons z zs => rfl
    intro W' t'
    refine ⟨(t'.row RPc.out HNp.out).cell (j := 0) rfl, t'.cell (Turn.cell (Turn.of (S := []) BC.out) h2 hb2 (by simp)) (Nat.lt_of_lt_of_le hb2 BC.out.size) (fun e => ?_)⟩
    rcases List.mem_cons.1 e with e | e
    · have := HZ.out; simp only at e; omega
    · exact HP.out _ hb1 e
   have hS0 : Hid (W2.drew.cell? ⟨w.heap.size, 0, none⟩ = some (.pointer (some ⟨g, 0, none⟩)) ∧ W2.drew.cell? ⟨xb, xo, none⟩ = some (.int .u64 (ky.toNat : Int))) := hSee.out _ hLI.out.turn.drew
   have o2 : W2.drew.cell? ⟨wb.heap.size, 0, none⟩ = some (.slice oa bs.length oc) := (hLI.out.row.below hdr.out).cell (j := 0) rfl
   clear hli hx hy hI2 hj hrj hbs
   refine wpIn_block ?_
   refine round_held_drew (S := (fun w' : World => w'.cell? ⟨w.heap.size, 0, none⟩ = some (.pointer (some ⟨g, 0, none⟩)) ∧ w'.cell? ⟨xb, xo, none⟩ = some (.int .u64 (ky.toNat : Int)))) (plain_ops (by kernel_rfl)) (by rintro ⟨_, _, h⟩; exact h) (by kernel_rfl) hS0.out (fun hH => ?_)
   refine tkM 1 _ rfl rfl ?_; simp only [sz, ss]
   refine tkM 2 _ rfl rfl ?_; simp only [sz, ss]
   refine tkM 3 _ rfl rfl ?_; simp only [sz, ss]
   refine tkM 4 _ rfl rfl ?_; simp only [sz, ss]
   refine tkM 5 _ rfl rfl ?_; simp only [sz, ss]
   refine tkM 6 _ rfl rfl ?_; simp only [sz, ss]
   refine tkM 7 _ rfl rfl ?_; simp only [sz, ss]
   refine rdL [0, 8] ?_
   refine rcL (fun K hK => ?_) ?_
   · go_simp
     refine hK.out _ _ ?_ (fun hH => ?_)
     · try dsimp only
       exact hH
     clear hK K
     refine r1L 8 rfl fun K hK => ?_
     · go_simp
       go_at_call 77
       refine Calls.mono (add_u _ g base vj sj kv tv (hLI.out.wr.below hdr.out) PP _ _ _ _ _ _ gj [] hRd.out (rKids_nil _ _) hPP.out) ?_
       rintro e w5 hdone
       rcases hadd : Tr.add sj (gj, []) with x | ⟨s5, q5⟩
       · obtain ⟨rfl, t5⟩ := hdone.1 x hadd
         exact ⟨rfl, hX.out x hadd _ _ rfl (WTurn.of hdr.out |>.turn.trans t5), ((Nc.turn t5 (hLI.out.below hdr.out).wr.cellsS) _ _ hD2 rfl).trans hD2.symm⟩
       obtain ⟨rfl, v5, hW5, t5⟩ := hdone.2 s5 q5 hadd
       obtain ⟨a6, n6, c6, w6, hr6, hL6, hN6, f6, c6', t6⟩ := (hLI.out.below hdr.out).fin hob.out hod.out hgd.out hbl.out hW5 t5 (ky, q5)
       dsimp only at hr6
       obtain ⟨wk, hwk⟩ : ∃ wk, w5.alloc (.cells #[.int .u64 (ky.toNat : Int), .int .i64 q5] 133) = wk := ⟨_, rfl⟩
       have b5 : Below w5.heap.size w5 wk := by rw [← hwk]; exact (Below.refl _ _).alloc (Nat.le_refl _) _
       rw [hwk] at hr6
       have HRun : Hid _ := hr6
       have HL6 : Hid _ := hL6
       have HN6 : Hid _ := hN6
       have HTW : Hid (Turn (wb.heap.size :: WS g v) wc w5) := hLI.out.turnW (WTurn.of hdr.out |>.trans t5).turn
       have o5 : w5.cell? ⟨wb.heap.size, 0, none⟩ = some (.slice oa bs.length oc) := ((hLI.out.below hdr.out).step hob.out hod.out hgd.out hW5 t5).row.cell (j := 0) rfl
       have ok : wk.cell? ⟨wb.heap.size, 0, none⟩ = some (.slice oa bs.length oc) := (((hLI.out.below hdr.out).step hob.out hod.out hgd.out hW5 t5).row.below b5).cell (j := 0) rfl
       have hS5 := hSee.out _ HTW.out
       have HSk : Hid _ := hSee.out _ (HTW.out.on b5)
       have HS6 : Hid _ := hSee.out _ t6
       have HS7 : Hid _ := hSee.out _ hL6.turn
       clear hr6 hL6 hN6 t6 b5
       go_simp
       refine hK.out _ _ ?_ (fun hH => ?_)
       · try dsimp only
         exact hS5
       clear hK K
       refine tkM 9 _ rfl rfl ?_; simp only [sz, ss]
       refine r1L 10 rfl fun K hK => ?_
       · go_simp
         refine hK.out _ _ ?_ (fun hH => ?_)
         · try dsimp only
           exact HSk.out
         clear hK K
         refine r1L 11 rfl fun K hK => ?_
         · refine held_append rfl rfl _ _ _ rfl _ _ _ rfl rfl HRun.out ?_
           refine hK.out _ _ ?_ (fun hH => ?_)
           · try dsimp only
             exact HS6.out
           clear hK K
           refine r1L 12 rfl fun K hK => ?_
           · go_simp
             refine hK.out _ _ ?_ (fun hH => ?_)
             · try dsimp only
               exact HS7.out
             clear hK K
             refine wpAnyH_done (by kernel_rfl) ?_ _
             obtain ⟨rl, hrl⟩ := hLp2
             exact ⟨hY.out s5 q5 hadd _ v5 _ (by rw [← hky.out]; exact HL6.out), (HN6.out _ _ hrl rfl).trans hrl.symm, (HN6.out _ _ hD2 rfl).trans hD2.symm⟩
   refine rcL (fun K hK => ?_) ?_
   · go_simp
     go_at_call 77
     refine Calls.mono (add_u _ g base vj sj kv tv (hLI.out.wr.below hdr.out) PP _ _ _ _ _ _ gj [] hRd.out (rKids_nil _ _) hPP.out) ?_
     rintro e w5 hdone
     rcases hadd : Tr.add sj (gj, []) with x | ⟨s5, q5⟩
     · obtain ⟨rfl, t5⟩ := hdone.1 x hadd
       exact ⟨rfl, hX.out x hadd _ _ rfl (WTurn.of hdr.out |>.turn.trans t5), ((Nc.turn t5 (hLI.out.below hdr.out).wr.cellsS) _ _ hD2 rfl).trans hD2.symm⟩
     obtain ⟨rfl, v5, hW5, t5⟩ := hdone.2 s5 q5 hadd
     obtain ⟨a6, n6, c6, w6, hr6, hL6, hN6, f6, c6', t6⟩ := (hLI.out.below hdr.out).fin hob.out hod.out hgd.out hbl.out hW5 t5 (ky, q5)
     dsimp only at hr6
     obtain ⟨wk, hwk⟩ : ∃ wk, w5.alloc (.cells #[.int .u64 (ky.toNat : Int), .int .i64 q5] 133) = wk := ⟨_, rfl⟩
     have b5 : Below w5.heap.size w5 wk := by rw [← hwk]; exact (Below.refl _ _).alloc (Nat.le_refl _) _
     rw [hwk] at hr6
     have HRun : Hid _ := hr6
     have HL6 : Hid _ := hL6
     have HN6 : Hid _ := hN6
     have HTW : Hid (Turn (wb.heap.size :: WS g v) wc w5) := hLI.out.turnW (WTurn.of hdr.out |>.trans t5).turn
     have o5 : w5.cell? ⟨wb.heap.size, 0, none⟩ = some (.slice oa bs.length oc) := ((hLI.out.below hdr.out).step hob.out hod.out hgd.out hW5 t5).row.cell (j := 0) rfl
     have ok : wk.cell? ⟨wb.heap.size, 0, none⟩ = some (.slice oa bs.length oc) := (((hLI.out.below hdr.out).step hob.out hod.out hgd.out hW5 t5).row.below b5).cell (j := 0) rfl
     have hS5 := hSee.out _ HTW.out
     have HSk : Hid _ := hSee.out _ (HTW.out.on b5)
     have HS6 : Hid _ := hSee.out _ t6
     have HS7 : Hid _ := hSee.out _ hL6.turn
     clear hr6 hL6 hN6 t6 b5
     go_simp
     refine hK.out _ _ ?_ (fun hH => ?_)
     · try dsimp only
       exact hS5
     clear hK K
     refine tkM 9 _ rfl rfl ?_; simp only [sz, ss]
     refine rdL [0, 10] ?_
     refine rcL (fun K hK => ?_) ?_
     · go_simp
       refine hK.out _ _ ?_ (fun hH => ?_)
       · try dsimp only
         exact hH
       clear hK K
       refine r1L 10 rfl fun K hK => ?_
       · go_simp
         refine hK.out _ _ ?_ (fun hH => ?_)
         · try dsimp only
           exact HSk.out
         clear hK K
         refine r1L 11 rfl fun K hK => ?_
         · refine held_append rfl rfl _ _ _ rfl _ _ _ rfl rfl HRun.out ?_
           refine hK.out _ _ ?_ (fun hH => ?_)
           · try dsimp only
             exact HS6.out
           clear hK K
           refine r1L 12 rfl fun K hK => ?_
           · go_simp
             refine hK.out _ _ ?_ (fun hH => ?_)
             · try dsimp only
               exact HS7.out
             clear hK K
             refine wpAnyH_done (by kernel_rfl) ?_ _
             obtain ⟨rl, hrl⟩ := hLp2
             exact ⟨hY.out s5 q5 hadd _ v5 _ (by rw [← hky.out]; exact HL6.out), (HN6.out _ _ hrl rfl).trans hrl.symm, (HN6.out _ _ hD2 rfl).trans hD2.symm⟩
     refine rcL (fun K hK => ?_) ?_
     · go_simp
       refine hK.out _ _ ?_ (fun hH => ?_)
       · try dsimp only
         exact HSk.out
       clear hK K
       refine r1L 0 rfl fun K hK => ?_
       · go_simp
         refine hK.out _ _ ?_ (fun hH => ?_)
         · try dsimp only
           exact hH
         clear hK K
         refine r1L 11 rfl fun K hK => ?_
         · refine held_append rfl rfl _ _ _ rfl _ _ _ rfl rfl HRun.out ?_
           refine hK.out _ _ ?_ (fun hH => ?_)
           · try dsimp only
             exact HS6.out
           clear hK K
           refine r1L 12 rfl fun K hK => ?_
           · go_simp
             refine hK.out _ _ ?_ (fun hH => ?_)
             · try dsimp only
               exact HS7.out
             clear hK K
             refine wpAnyH_done (by kernel_rfl) ?_ _
             obtain ⟨rl, hrl⟩ := hLp2
             exact ⟨hY.out s5 q5 hadd _ v5 _ (by rw [← hky.out]; exact HL6.out), (HN6.out _ _ hrl rfl).trans hrl.symm, (HN6.out _ _ hD2 rfl).trans hD2.symm⟩
     exact rnL
   exact rnL
 · rintro Y ⟨v1, s1, ov1, bs1, hst1, hbl1, hli1⟩ hDY
   have HG1 : Hid (Tr.layG Tr.leafOver Tr.keyF (Tr.groups 3 l) (s, []) = .ok (s1, bs1)) := by
    unfold Hid
    rw [← hst1, hEl, List.drop_length]
    rfl
   have HI1 : Hid _ := hli1
   have HBl1 : Hid (bs1.length ≤ 1000) := by
    have := HGl.out
    unfold Hid
    rw [hbl1, hEl]
    simp only [List.length_nil]
    omega
   have HDY : Hid _ := hDY
   have c1y : Y.cell? ⟨wa.heap.size, 1, none⟩ = some (.slice a' n' c') := (hli1.turn.row RCc.out HNa.out).cell (j := 1) rfl
   obtain ⟨we, hwe, Ve, be, ze⟩ := boxedRow Y 109 [.slice a' n' c']
   obtain ⟨wf, hwf, Vf, bf, zf⟩ := boxedRow we 3 [.int .i64 4]
   have BCF : Hid (Below Y.heap.size Y wf) := on be bf
   have R3 : Hid (Row wf Y.heap.size 109 [.slice a' n' c']) := Ve.below bf
   have R4 : Hid _ := Vf
   have HZ2 : Hid (wd.heap.size < Y.heap.size ∧ Y.heap.size < we.heap.size ∧ we.heap.size < wf.heap.size) := ⟨(Array.getElem?_eq_some_iff.1 hDY).1, by omega, by omega⟩
   have HZ3 : Hid (we.heap.size = Y.heap.size + 1) := ze
   clear hE hEl hEa encs hst1 hbl1 hli1 hDY Ve Vf be bf ze zf
   show wpAt _ _ _ _ _ _
   refine wpAt_seq ?_
   refine wpAt_seq (wpAt_of (n := 3) ?_)
   gi_wp2_with (refine ⟨trivial, ?_⟩; gi_at_call 78; refine ((callsIn_wide (n := 3 - 1)).2 (groupsB_u _ _ _ _ _)).mono ?_; rintro e w' ⟨rfl, rfl⟩)
   obtain ⟨encs, hE, hEl, hEa⟩ := groupsB_all Y.heap.size (Y.heap.size + 1) (most := 4) (by decide) (by decide) hn' HK.out
   refine wpAt_block (wpAt_hands (n := 3) Tryz.func67 (encs := encs) (by rfl) (fun _ _ => rfl) hE (fun args ha => ?_) (fun j W => LayJ Tr.over Tr.fromK (Tr.groups 4 ks) g base wb.heap.size v kv tv wc s1 bs1 j W ∧ W.heap[wd.heap.size]? = some (.deferred (some []))) (fun ch W => LayX Tr.over Tr.fromK (Tr.groups 4 ks) g wb.heap.size v wc s1 bs1 ch W ∧ W.heap[wd.heap.size]? = some (.deferred (some []))) ?_ ?_ ?_ ?_ ?_ ?_)
   rotate_left 4
   · intro j args W hj hI hD hLp
     obtain ⟨xb, xo, xn, xc, rfl, gj, hgj, hne, hrj⟩ := hEa j args hj
     simp only [List.zip_toArray, List.zip_cons_cons, List.zip_nil_right, List.foldl_toArray, List.foldl_cons, List.foldl_nil, List.setIfInBounds_toArray, List.set_cons_zero, List.set_cons_succ]
     gi_wp2
     refine ⟨trivial, ?_⟩
     intro W2 hI2 hD2 hLp2
     clear hI hD hLp W
     obtain ⟨vj, sj, oa, oc, bs, hbs, hli, hx, hy⟩ := hI2.1.round hgj
     have hM2 : Hid _ := hI2.2
     have hLI : Hid _ := hli
     have hX : Hid _ := hx
     have hY : Hid _ := hy
     have hdr : Hid (Below W2.heap.size W2 W2.drew) := (Below.refl _ _).drew
     have hob : Hid (wb.heap.size ∉ WS g v) := HOb.out
     have hod : Hid (wb.heap.size < wc.heap.size) := HZ.out.2.2.1
     have hgd : Hid (g < wc.heap.size) := HGd.out
     have hbl : Hid (bs.length ≤ 10000) := by
      have h1 := (List.getElem?_eq_some_iff.1 hgj).1
      have h2 := HGl4.out
      unfold Hid
      rw [hbs]
      have := HBl1.out
      omega
     obtain ⟨PP, hPPd⟩ : ∃ PP : Nat → Prop, PP = fun b => b < w.heap.size ∧ b ∉ WS g v := ⟨_, rfl⟩
     have hRd : Hid (rBrns.rd W2.drew PP [.slice (some ⟨xb, xo, none⟩) xn xc] gj) := by
      rw [hPPd]
      have h1 : rBrns.rd w (fun b => b < w.heap.size ∧ b ∉ WS g v) [.slice (some ⟨xb, xo, none⟩) xn xc] gj := rBrns.weaken hrj (fun b hb hl => ⟨hl, HP.out b hb⟩)
      have h2 := Rep.below h1 BC.out
      exact Rep.below (hLI.out.turn.rep h2 (fun b hb _ e => by
       rcases List.mem_cons.1 e with e | e
       · have := hb.1; have := HZ.out; omega
       · exact hb.2 e)) hdr.out
     have hPP : Hid (∀ b, W2.heap.size ≤ b → b ∉ WS g vj) := by
      intro b hb e
      have := (hLI.out.wr.cellsS b e).lt
      omega
     have hgl : Hid (gj.length = xn) := (rList_len hrj).1
     have hxm : xn ≤ 1000 := by
      rw [← hgl.out]
      exact Nat.le_trans (groups_le 4 ks gj (List.mem_of_getElem? hgj)) (by rw [(rList_len HK.out).1]; exact hn')
     have hpj : Hid (∀ b ∈ gj, -9223372036854775808 ≤ b.2 ∧ b.2 ≤ 9223372036854775807) := fun b hb => HPg.out b (groups_mem 4 ks gj (List.mem_of_getElem? hgj) b hb)
     have hxn : 0 < xn := by
      have := (rList_len hrj).1
      have := List.length_pos_iff.2 hne
      omega
     obtain ⟨ky, hky0⟩ : ∃ ky, ky = Tr.fromK gj := ⟨_, rfl⟩
     have hky : Hid (ky = Tr.fromK gj) := hky0
     clear hky0
     have hSee : Hid (∀ W', Turn (wb.heap.size :: WS g v) wc W' → W'.cell? ⟨w.heap.size, 0, none⟩ = some (.pointer (some ⟨g, 0, none⟩)) ∧ W'.cell? ⟨xb, xo, none⟩ = some (.int .u64 (ky.toNat : Int))) := by
      obtain ⟨b2, off2, e, hb1, hb2, hat⟩ := rBrns_at hrj hxn
      simp only [Option.some.injEq, Addr.mk.injEq, and_true] at e
      obtain ⟨rfl, rfl⟩ := e
      have h1 := (hat 0 (List.length_pos_iff.2 hne)).1
      rw [Nat.zero_mul, Nat.add_zero] at h1
      have h2 : w.cell? ⟨xb, xo, none⟩ = some (.int .u64 (ky.toNat : Int)) := by
       rw [h1, hky.out]
       cases gj with
       | nil => exact absurd rfl hne
       | cons z zs => rfl
      intro W' t'
      refine ⟨(t'.row RPc.out HNp.out).cell (j := 0) rfl, t'.cell (Turn.cell (Turn.of (S := []) BC.out) h2 hb2 (by simp)) (Nat.lt_of_lt_of_le hb2 BC.out.size) (fun e => ?_)⟩
      rcases List.mem_cons.1 e with e | e
      · have := HZ.out; simp only at e; omega
      · exact HP.out _ hb1 e
     have hS0 : Hid (W2.drew.cell? ⟨w.heap.size, 0, none⟩ = some (.pointer (some ⟨g, 0, none⟩)) ∧ W2.drew.cell? ⟨xb, xo, none⟩ = some (.int .u64 (ky.toNat : Int))) := hSee.out _ hLI.out.turn.drew
     have o2 : W2.drew.cell? ⟨wb.heap.size, 0, none⟩ = some (.slice oa bs.length oc) := (hLI.out.row.below hdr.out).cell (j := 0) rfl
     clear hli hx hy hI2 hj hrj hbs
     refine wpIn_block ?_
     refine round_held_drew (S := (fun w' : World => w'.cell? ⟨w.heap.size, 0, none⟩ = some (.pointer (some ⟨g, 0, none⟩)) ∧ w'.cell? ⟨xb, xo, none⟩ = some (.int .u64 (ky.toNat : Int)))) (plain_ops (by kernel_rfl)) (by rintro ⟨_, _, h⟩; exact h) (by kernel_rfl) hS0.out (fun hH => ?_)
     refine tkM 1 _ rfl rfl ?_; simp only [sz, ss]
     refine tkM 2 _ rfl rfl ?_; simp only [sz, ss]
     refine tkM 3 _ rfl rfl ?_; simp only [sz, ss]
     refine tkM 4 _ rfl rfl ?_; simp only [sz, ss]
     refine tkM 5 _ rfl rfl ?_; simp only [sz, ss]
     refine tkM 6 _ rfl rfl ?_; simp only [sz, ss]
     refine rdL [0, 7] ?_
     refine rcL (fun K hK => ?_) ?_
     · go_simp
       refine hK.out _ _ ?_ (fun hH => ?_)
       · try dsimp only
         exact hH
       clear hK K
       refine r1L 7 rfl fun K hK => ?_
       · go_simp
         go_at_call 79
         refine Calls.mono (nodeOver_u _ PP _ _ _ gj hRd.out hxm hpj.out) ?_
         rintro e w4 ⟨ia, il, ic, ka, kl, kc, rfl, hI4, hK4, b4⟩
         have hd4 : Hid (Below W2.heap.size W2 w4) := on (Below.refl _ _).drew b4
         have hlo : Hid ((Tr.over gj).1.length ≤ 1000 ∧ (Tr.over gj).2.length ≤ 1000) := by
          have := hgl.out
          refine ⟨?_, ?_⟩
          · show (List.map _ _).length ≤ _; rw [List.length_map, List.length_tail]; omega
          · show (List.map _ _).length ≤ _; rw [List.length_map]; omega
         have hRi4 : Hid (rItms.rd w4 (fun b => W2.heap.size ≤ b) [.slice ia il ic] (Tr.over gj).1) := hI4.rd (by have := hlo.out.1; omega)
         have hRk4 : Hid (rKids.rd w4 (fun b => W2.heap.size ≤ b) [.slice ka kl kc] (Tr.over gj).2) := hK4.rd (by have := hlo.out.2; omega)
         have hS4 := hSee.out _ (hLI.out.turn.on hd4.out)
         have o4 : w4.cell? ⟨wb.heap.size, 0, none⟩ = some (.slice oa bs.length oc) := (hLI.out.row.below hd4.out).cell (j := 0) rfl
         clear hI4 hK4 b4
         go_simp
         refine hK.out _ _ ?_ (fun hH => ?_)
         · try dsimp only
           exact hS4
         clear hK K
         refine r1L 8 rfl fun K hK => ?_
         · go_simp
           go_at_call 77
           refine Calls.mono (add_u _ g base vj sj kv tv (hLI.out.wr.below hd4.out) (fun b => W2.heap.size ≤ b) _ _ _ _ _ _ _ _ hRi4.out hRk4.out hPP.out) ?_
           rintro e w5 hdone
           rcases hadd : Tr.add sj (Tr.over gj) with x | ⟨s5, q5⟩
           · obtain ⟨rfl, t5⟩ := hdone.1 x hadd
             exact ⟨rfl, ⟨hX.out x hadd _ _ rfl (WTurn.of hd4.out |>.turn.trans t5), ((Nc.below hd4.out).trans (Nc.turn t5 (hLI.out.below hd4.out).wr.cellsS)) _ _ hM2.out rfl⟩, (((Nc.below hd4.out).trans (Nc.turn t5 (hLI.out.below hd4.out).wr.cellsS)) _ _ hD2 rfl).trans hD2.symm⟩
           obtain ⟨rfl, v5, hW5, t5⟩ := hdone.2 s5 q5 hadd
           obtain ⟨a6, n6, c6, w6, hr6, hL6, hN6, f6, c6', t6⟩ := (hLI.out.below hd4.out).fin hob.out hod.out hgd.out hbl.out hW5 t5 (ky, q5)
           dsimp only at hr6
           obtain ⟨wk, hwk⟩ : ∃ wk, w5.alloc (.cells #[.int .u64 (ky.toNat : Int), .int .i64 q5] 133) = wk := ⟨_, rfl⟩
           have b5 : Below w5.heap.size w5 wk := by rw [← hwk]; exact (Below.refl _ _).alloc (Nat.le_refl _) _
           rw [hwk] at hr6
           have HRun : Hid _ := hr6
           have HL6 : Hid _ := hL6
           have HN6 : Hid _ := hN6
           have HTW : Hid (Turn (wb.heap.size :: WS g v) wc w5) := hLI.out.turnW (WTurn.of hd4.out |>.trans t5).turn
           have o5 : w5.cell? ⟨wb.heap.size, 0, none⟩ = some (.slice oa bs.length oc) := ((hLI.out.below hd4.out).step hob.out hod.out hgd.out hW5 t5).row.cell (j := 0) rfl
           have ok : wk.cell? ⟨wb.heap.size, 0, none⟩ = some (.slice oa bs.length oc) := (((hLI.out.below hd4.out).step hob.out hod.out hgd.out hW5 t5).row.below b5).cell (j := 0) rfl
           have hS5 := hSee.out _ HTW.out
           have HSk : Hid _ := hSee.out _ (HTW.out.on b5)
           have HS6 : Hid _ := hSee.out _ t6
           have HS7 : Hid _ := hSee.out _ hL6.turn
           clear hr6 hL6 hN6 t6 b5
           go_simp
           refine hK.out _ _ ?_ (fun hH => ?_)
           · try dsimp only
             exact hS5
           clear hK K
           refine tkM 9 _ rfl rfl ?_; simp only [sz, ss]
           refine r1L 10 rfl fun K hK => ?_
           · go_simp
             refine hK.out _ _ ?_ (fun hH => ?_)
             · try dsimp only
               exact HSk.out
             clear hK K
             refine r1L 11 rfl fun K hK => ?_
             · refine held_append rfl rfl _ _ _ rfl _ _ _ rfl rfl HRun.out ?_
               refine hK.out _ _ ?_ (fun hH => ?_)
               · try dsimp only
                 exact HS6.out
               clear hK K
               refine r1L 12 rfl fun K hK => ?_
               · go_simp
                 refine hK.out _ _ ?_ (fun hH => ?_)
                 · try dsimp only
                   exact HS7.out
                 clear hK K
                 refine wpAnyH_done (by kernel_rfl) ?_ _
                 obtain ⟨rl, hrl⟩ := hLp2
                 exact ⟨⟨hY.out s5 q5 hadd _ v5 _ (by rw [← hky.out]; exact HL6.out), ((Nc.below hd4.out).trans HN6.out) _ _ hM2.out rfl⟩, (((Nc.below hd4.out).trans HN6.out) _ _ hrl rfl).trans hrl.symm, (((Nc.below hd4.out).trans HN6.out) _ _ hD2 rfl).trans hD2.symm⟩
     refine rcL (fun K hK => ?_) ?_
     · go_simp
       go_at_call 79
       refine Calls.mono (nodeOver_u _ PP _ _ _ gj hRd.out hxm hpj.out) ?_
       rintro e w4 ⟨ia, il, ic, ka, kl, kc, rfl, hI4, hK4, b4⟩
       have hd4 : Hid (Below W2.heap.size W2 w4) := on (Below.refl _ _).drew b4
       have hlo : Hid ((Tr.over gj).1.length ≤ 1000 ∧ (Tr.over gj).2.length ≤ 1000) := by
        have := hgl.out
        refine ⟨?_, ?_⟩
        · show (List.map _ _).length ≤ _; rw [List.length_map, List.length_tail]; omega
        · show (List.map _ _).length ≤ _; rw [List.length_map]; omega
       have hRi4 : Hid (rItms.rd w4 (fun b => W2.heap.size ≤ b) [.slice ia il ic] (Tr.over gj).1) := hI4.rd (by have := hlo.out.1; omega)
       have hRk4 : Hid (rKids.rd w4 (fun b => W2.heap.size ≤ b) [.slice ka kl kc] (Tr.over gj).2) := hK4.rd (by have := hlo.out.2; omega)
       have hS4 := hSee.out _ (hLI.out.turn.on hd4.out)
       have o4 : w4.cell? ⟨wb.heap.size, 0, none⟩ = some (.slice oa bs.length oc) := (hLI.out.row.below hd4.out).cell (j := 0) rfl
       clear hI4 hK4 b4
       go_simp
       refine hK.out _ _ ?_ (fun hH => ?_)
       · try dsimp only
         exact hS4
       clear hK K
       refine rdL [0, 8] ?_
       refine rcL (fun K hK => ?_) ?_
       · go_simp
         refine hK.out _ _ ?_ (fun hH => ?_)
         · try dsimp only
           exact hH
         clear hK K
         refine r1L 8 rfl fun K hK => ?_
         · go_simp
           go_at_call 77
           refine Calls.mono (add_u _ g base vj sj kv tv (hLI.out.wr.below hd4.out) (fun b => W2.heap.size ≤ b) _ _ _ _ _ _ _ _ hRi4.out hRk4.out hPP.out) ?_
           rintro e w5 hdone
           rcases hadd : Tr.add sj (Tr.over gj) with x | ⟨s5, q5⟩
           · obtain ⟨rfl, t5⟩ := hdone.1 x hadd
             exact ⟨rfl, ⟨hX.out x hadd _ _ rfl (WTurn.of hd4.out |>.turn.trans t5), ((Nc.below hd4.out).trans (Nc.turn t5 (hLI.out.below hd4.out).wr.cellsS)) _ _ hM2.out rfl⟩, (((Nc.below hd4.out).trans (Nc.turn t5 (hLI.out.below hd4.out).wr.cellsS)) _ _ hD2 rfl).trans hD2.symm⟩
           obtain ⟨rfl, v5, hW5, t5⟩ := hdone.2 s5 q5 hadd
           obtain ⟨a6, n6, c6, w6, hr6, hL6, hN6, f6, c6', t6⟩ := (hLI.out.below hd4.out).fin hob.out hod.out hgd.out hbl.out hW5 t5 (ky, q5)
           dsimp only at hr6
           obtain ⟨wk, hwk⟩ : ∃ wk, w5.alloc (.cells #[.int .u64 (ky.toNat : Int), .int .i64 q5] 133) = wk := ⟨_, rfl⟩
           have b5 : Below w5.heap.size w5 wk := by rw [← hwk]; exact (Below.refl _ _).alloc (Nat.le_refl _) _
           rw [hwk] at hr6
           have HRun : Hid _ := hr6
           have HL6 : Hid _ := hL6
           have HN6 : Hid _ := hN6
           have HTW : Hid (Turn (wb.heap.size :: WS g v) wc w5) := hLI.out.turnW (WTurn.of hd4.out |>.trans t5).turn
           have o5 : w5.cell? ⟨wb.heap.size, 0, none⟩ = some (.slice oa bs.length oc) := ((hLI.out.below hd4.out).step hob.out hod.out hgd.out hW5 t5).row.cell (j := 0) rfl
           have ok : wk.cell? ⟨wb.heap.size, 0, none⟩ = some (.slice oa bs.length oc) := (((hLI.out.below hd4.out).step hob.out hod.out hgd.out hW5 t5).row.below b5).cell (j := 0) rfl
           have hS5 := hSee.out _ HTW.out
           have HSk : Hid _ := hSee.out _ (HTW.out.on b5)
           have HS6 : Hid _ := hSee.out _ t6
           have HS7 : Hid _ := hSee.out _ hL6.turn
           clear hr6 hL6 hN6 t6 b5
           go_simp
           refine hK.out _ _ ?_ (fun hH => ?_)
           · try dsimp only
             exact hS5
           clear hK K
           refine tkM 9 _ rfl rfl ?_; simp only [sz, ss]
           refine r1L 10 rfl fun K hK => ?_
           · go_simp
             refine hK.out _ _ ?_ (fun hH => ?_)
             · try dsimp only
               exact HSk.out
             clear hK K
             refine r1L 11 rfl fun K hK => ?_
             · refine held_append rfl rfl _ _ _ rfl _ _ _ rfl rfl HRun.out ?_
               refine hK.out _ _ ?_ (fun hH => ?_)
               · try dsimp only
                 exact HS6.out
               clear hK K
               refine r1L 12 rfl fun K hK => ?_
               · go_simp
                 refine hK.out _ _ ?_ (fun hH => ?_)
                 · try dsimp only
                   exact HS7.out
                 clear hK K
                 refine wpAnyH_done (by kernel_rfl) ?_ _
                 obtain ⟨rl, hrl⟩ := hLp2
                 exact ⟨⟨hY.out s5 q5 hadd _ v5 _ (by rw [← hky.out]; exact HL6.out), ((Nc.below hd4.out).trans HN6.out) _ _ hM2.out rfl⟩, (((Nc.below hd4.out).trans HN6.out) _ _ hrl rfl).trans hrl.symm, (((Nc.below hd4.out).trans HN6.out) _ _ hD2 rfl).trans hD2.symm⟩
       refine rcL (fun K hK => ?_) ?_
       · go_simp
         go_at_call 77
         refine Calls.mono (add_u _ g base vj sj kv tv (hLI.out.wr.below hd4.out) (fun b => W2.heap.size ≤ b) _ _ _ _ _ _ _ _ hRi4.out hRk4.out hPP.out) ?_
         rintro e w5 hdone
         rcases hadd : Tr.add sj (Tr.over gj) with x | ⟨s5, q5⟩
         · obtain ⟨rfl, t5⟩ := hdone.1 x hadd
           exact ⟨rfl, ⟨hX.out x hadd _ _ rfl (WTurn.of hd4.out |>.turn.trans t5), ((Nc.below hd4.out).trans (Nc.turn t5 (hLI.out.below hd4.out).wr.cellsS)) _ _ hM2.out rfl⟩, (((Nc.below hd4.out).trans (Nc.turn t5 (hLI.out.below hd4.out).wr.cellsS)) _ _ hD2 rfl).trans hD2.symm⟩
         obtain ⟨rfl, v5, hW5, t5⟩ := hdone.2 s5 q5 hadd
         obtain ⟨a6, n6, c6, w6, hr6, hL6, hN6, f6, c6', t6⟩ := (hLI.out.below hd4.out).fin hob.out hod.out hgd.out hbl.out hW5 t5 (ky, q5)
         dsimp only at hr6
         obtain ⟨wk, hwk⟩ : ∃ wk, w5.alloc (.cells #[.int .u64 (ky.toNat : Int), .int .i64 q5] 133) = wk := ⟨_, rfl⟩
         have b5 : Below w5.heap.size w5 wk := by rw [← hwk]; exact (Below.refl _ _).alloc (Nat.le_refl _) _
         rw [hwk] at hr6
         have HRun : Hid _ := hr6
         have HL6 : Hid _ := hL6
         have HN6 : Hid _ := hN6
         have HTW : Hid (Turn (wb.heap.size :: WS g v) wc w5) := hLI.out.turnW (WTurn.of hd4.out |>.trans t5).turn
         have o5 : w5.cell? ⟨wb.heap.size, 0, none⟩ = some (.slice oa bs.length oc) := ((hLI.out.below hd4.out).step hob.out hod.out hgd.out hW5 t5).row.cell (j := 0) rfl
         have ok : wk.cell? ⟨wb.heap.size, 0, none⟩ = some (.slice oa bs.length oc) := (((hLI.out.below hd4.out).step hob.out hod.out hgd.out hW5 t5).row.below b5).cell (j := 0) rfl
         have hS5 := hSee.out _ HTW.out
         have HSk : Hid _ := hSee.out _ (HTW.out.on b5)
         have HS6 : Hid _ := hSee.out _ t6
         have HS7 : Hid _ := hSee.out _ hL6.turn
         clear hr6 hL6 hN6 t6 b5
         go_simp
         refine hK.out _ _ ?_ (fun hH => ?_)
         · try dsimp only
           exact hS5
         clear hK K
         refine tkM 9 _ rfl rfl ?_; simp only [sz, ss]
         refine rdL [0, 10] ?_
         refine rcL (fun K hK => ?_) ?_
         · go_simp
           refine hK.out _ _ ?_ (fun hH => ?_)
           · try dsimp only
             exact hH
           clear hK K
           refine r1L 10 rfl fun K hK => ?_
           · go_simp
             refine hK.out _ _ ?_ (fun hH => ?_)
             · try dsimp only
               exact HSk.out
             clear hK K
             refine r1L 11 rfl fun K hK => ?_
             · refine held_append rfl rfl _ _ _ rfl _ _ _ rfl rfl HRun.out ?_
               refine hK.out _ _ ?_ (fun hH => ?_)
               · try dsimp only
                 exact HS6.out
               clear hK K
               refine r1L 12 rfl fun K hK => ?_
               · go_simp
                 refine hK.out _ _ ?_ (fun hH => ?_)
                 · try dsimp only
                   exact HS7.out
                 clear hK K
                 refine wpAnyH_done (by kernel_rfl) ?_ _
                 obtain ⟨rl, hrl⟩ := hLp2
                 exact ⟨⟨hY.out s5 q5 hadd _ v5 _ (by rw [← hky.out]; exact HL6.out), ((Nc.below hd4.out).trans HN6.out) _ _ hM2.out rfl⟩, (((Nc.below hd4.out).trans HN6.out) _ _ hrl rfl).trans hrl.symm, (((Nc.below hd4.out).trans HN6.out) _ _ hD2 rfl).trans hD2.symm⟩
         refine rcL (fun K hK => ?_) ?_
         · go_simp
           refine hK.out _ _ ?_ (fun hH => ?_)
           · try dsimp only
             exact HSk.out
           clear hK K
           refine r1L 0 rfl fun K hK => ?_
           · go_simp
             refine hK.out _ _ ?_ (fun hH => ?_)
             · try dsimp only
               exact hH
             clear hK K
             refine r1L 11 rfl fun K hK => ?_
             · refine held_append rfl rfl _ _ _ rfl _ _ _ rfl rfl HRun.out ?_
               refine hK.out _ _ ?_ (fun hH => ?_)
               · try dsimp only
                 exact HS6.out
               clear hK K
               refine r1L 12 rfl fun K hK => ?_
               · go_simp
                 refine hK.out _ _ ?_ (fun hH => ?_)
                 · try dsimp only
                   exact HS7.out
                 clear hK K
                 refine wpAnyH_done (by kernel_rfl) ?_ _
                 obtain ⟨rl, hrl⟩ := hLp2
                 exact ⟨⟨hY.out s5 q5 hadd _ v5 _ (by rw [← hky.out]; exact HL6.out), ((Nc.below hd4.out).trans HN6.out) _ _ hM2.out rfl⟩, (((Nc.below hd4.out).trans HN6.out) _ _ hrl rfl).trans hrl.symm, (((Nc.below hd4.out).trans HN6.out) _ _ hD2 rfl).trans hD2.symm⟩
         exact rnL
       exact rnL
     exact rnL
   · rintro Z ⟨⟨v2, s2, ov2, bs2, hst2, -, hli2⟩, hM⟩ hD
     have HG2 : Hid (Tr.layG Tr.over Tr.fromK (Tr.groups 4 ks) (s1, bs1) = .ok (s2, bs2)) := by
      unfold Hid
      rw [← hst2, hEl, List.drop_length]
      rfl
     obtain ⟨oa, oc, rfl, -⟩ := hli2.out.slice
     have HI2 : Hid _ := hli2
     have o9 := hli2.row.cell (j := 0) rfl
     have HM : Hid _ := hM
     have HD : Hid _ := hD
     clear hst2 hli2 hM hD
     show wpAt _ _ _ _ _ _
     refine wpAt_of (n := 3) ?_
     gi_wp2
     refine ⟨by simp, .inl ⟨_, _, rfl, run_takeDeferred HD.out, ?_⟩⟩
     refine ⟨by simp, .inl ⟨_, _, rfl, run_takeDeferred ((World.putObj_heap_other (by have := HZ2.out; omega)).trans HM.out), ?_⟩⟩
     have h1 := HI2.out.put (.deferred none) (by have := HZ2.out; have := HZ.out; omega) HD.out rfl
     have h2 := h1.put (.deferred none) (r := wd.heap.size) (by have := HZ.out; omega) ((World.putObj_heap_other (by have := HZ2.out; omega)).trans HM.out) rfl
     obtain ⟨q1, q2, q3, q4⟩ := h2.done BC.out (by have := HZ.out; omega) HGd.out
     refine ⟨.slice oa bs2.length oc, ?_, fun y hy => ?_, fun s' bs' hy => ?_⟩
     · simp [results, Tryz.f67, go_sem]
     · rw [Tr.lay, HG1.out] at hy
       simp only [HG2.out] at hy
       cases hy
     · rw [Tr.lay, HG1.out] at hy
       simp only [HG2.out] at hy
       cases hy
       exact ⟨oa, _, oc, v2, rfl, q1, q2, q3, q4⟩
   · intro ch W hX hD
     obtain ⟨⟨x, hch, hx, tX⟩, hM⟩ := hX
     refine ⟨by simp, .inl ⟨_, _, rfl, run_takeDeferred hD, ?_⟩⟩
     refine ⟨by simp, .inl ⟨_, _, rfl, run_takeDeferred ((World.putObj_heap_other (by have := HZ2.out; omega)).trans hM), ?_⟩⟩
     have hT := ((lay_turn tX BC.out (by have := HZ.out; omega)).putN (r := wf.heap.size) (by have := HZ2.out; have := HZ.out; omega) (.deferred none)).putN (r := wd.heap.size) (by have := HZ.out; omega) (.deferred none)
     refine ⟨fun y hy => ?_, fun s' bs' hy => ?_⟩
     · rw [Tr.lay, HG1.out] at hy
       simp only [hx] at hy
       cases hy
       exact ⟨hch, hT⟩
     · rw [Tr.lay, HG1.out] at hy
       simp only [hx] at hy
       cases hy
   · obtain ⟨j, hj⟩ := List.mem_iff_getElem?.1 ha
     obtain ⟨xb, xo, xn, xc, rfl, -⟩ := hEa j args hj
     rfl
   · rintro j W r o o' hr0 hr ho ⟨⟨vj, sj, ov, bs, h1, h2, h3⟩, hM⟩
     exact ⟨⟨vj, sj, ov, bs, h1, h2, h3.put o' (by have := HZ.out; have := HZ2.out; omega) hr ho⟩, (World.putObj_heap_other (by have := HZ2.out; omega)).trans hM⟩
   · intro rec
     have b2 : Below Y.heap.size Y ((wf.alloc (.deferred (some []))).alloc (.loop rec)) := on BCF.out (on ((Below.refl _ _).alloc (Nat.le_refl _) _) ((Below.refl _ _).alloc (Nat.le_refl _) _))
     exact ⟨⟨v1, s1, _, bs1, rfl, rfl, HI1.out.below b2⟩, (b2.block _ HZ2.out.1).trans HDY.out⟩
   · intro rec
     have b2 : Below wf.heap.size wf ((wf.alloc (.deferred (some []))).alloc (.loop rec)) := on ((Below.refl _ _).alloc (Nat.le_refl _) _) ((Below.refl _ _).alloc (Nat.le_refl _) _)
     exact ⟨(R3.out.below b2).cell (j := 0) rfl, by have h := (R4.out.below b2).cell (j := 0) rfl; rw [HZ3.out] at h; exact h⟩
 · intro ch W hX hD
   obtain ⟨x, hch, hx, tX⟩ := hX
   refine ⟨by simp, .inl ⟨_, _, rfl, run_takeDeferred hD, ?_⟩⟩
   have hT := (lay_turn tX BC.out (by have := HZ.out; omega)).putN (r := wd.heap.size) (by have := HZ.out; omega) (.deferred none)
   refine ⟨fun y hy => ?_, fun s' bs' hy => ?_⟩
   · rw [Tr.lay, hx] at hy
     cases hy
     exact ⟨hch, hT⟩
   · rw [Tr.lay, hx] at hy
     cases hy
 · obtain ⟨j, hj⟩ := List.mem_iff_getElem?.1 ha
   obtain ⟨xb, xo, xn, xc, rfl, -⟩ := hEa j args hj
   rfl
 · rintro j W r o o' hr0 hr ho ⟨vj, sj, ov, bs, h1, h2, h3⟩
   exact ⟨vj, sj, ov, bs, h1, h2, h3.put o' (by have := HZ.out; omega) hr ho⟩
 · intro rec
   exact ⟨v, s, _, [], rfl, rfl, (HI0.out.below BCD.out).below (on ((Below.refl _ _).alloc (Nat.le_refl _) _) ((Below.refl _ _).alloc (Nat.le_refl _) _))⟩
 · intro rec
   have b2 : Below wd.heap.size wd ((wd.alloc (.deferred (some []))).alloc (.loop rec)) := on ((Below.refl _ _).alloc (Nat.le_refl _) _) ((Below.refl _ _).alloc (Nat.le_refl _) _)
   exact ⟨(R1.out.below b2).cell (j := 0) rfl, by have h := (R2.out.below b2).cell (j := 0) rfl; rw [HZ1.out] at h; exact h⟩
end Go.Proofs.YtkbmadoaomoojaaGreat
