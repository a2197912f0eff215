/-
  Facts that the proof rests on, part 36. Conditions: those that each of them names.
-/
import Derived.Test.YtkbmadoaomoojaaGreatK13
import Derived.Test.YtkbmadoaomoojaaGreatK14
namespace Go.Proofs.YtkbmadoaomoojaaGreat
set_option maxRecDepth 20000
open Go.RowKit
set_option linter.unusedVariables false
theorem Walks.grow {w w' : World} {B g gm : Nat} {P : Nat → Prop} {pa oa : Option Addr} {pc on_ oc base : Nat} {s : Pgs} {k : Tr.Wk} (h : Walks w g gm P pa pc oa on_ oc base s k) (a : Apart P B g gm base) {oa' : Option Addr} {on' oc' : Nat} {l : List Itm} (ho : OwnI 45 w' base (.slice oa' on' oc') l) (hg : Grew w w' (.slice oa on_ oc) (.slice oa' on' oc')) (hl : l.length ≤ 3 * metN k.met) :
 Walks (w'.setCell ⟨g, 2, none⟩ (.slice oa' on' oc')) g gm P pa pc oa' on' oc' base s { k with out := l } := by
 have hown := h.out.row.lt
 have ng : (Value.slice oa on_ oc).ownBlock ≠ some g := fun e => by have := (hown g e).1; have := a.gb; omega
 have nm : (Value.slice oa on_ oc).ownBlock ≠ some gm := fun e => by have := (hown gm e).1; have := a.gmb; omega
 refine ⟨(h.row.grew hg ng).set 2 _, ?_, (h.met.grew hg nm).setO (p := ⟨g, 2, none⟩) a.ne _, h.len, ho.setB (p := ⟨g, 2, none⟩) a.gb _, hl⟩
 refine rSectors.keep (rSectors.keep h.pages (fun b hb hlt => hg.grown.block b hlt (fun e => by have := (hown b e.symm).1; have := a.pages b hb; have := a.atO; omega))) (fun b hb hlt => Below.heap_setCell _ _ _ _ (by have := a.pages b hb; have := a.atG; show b ≠ g; omega))
theorem Walks.setLeaf {w : World} {B g gm : Nat} {P : Nat → Prop} {pa oa : Option Addr} {pc on_ oc base : Nat} {s : Pgs} {k : Tr.Wk} (h : Walks w g gm P pa pc oa on_ oc base s k) (a : Apart P B g gm base) (x : Nat) :
 Walks (w.setCell ⟨g, 3, none⟩ (.int .i64 (x : Int))) g gm P pa pc oa on_ oc base s { k with leaf := x } :=
 ⟨h.row.set 3 _, rSectors.keep h.pages (fun b hb hl => Below.heap_setCell _ _ _ _ (by have := a.pages b hb; have := a.atG; show b ≠ g; omega)), h.met.setO (p := ⟨g, 3, none⟩) a.ne _, h.len, h.out.setB (p := ⟨g, 3, none⟩) a.gb _, h.few⟩
set_option maxRecDepth 20000 in
set_option maxHeartbeats 8000000 in
theorem node_leaf (s : Pgs) (hs : s.length ≤ 2048) (f : Nat) (hf : f < 16) (w : World) (B g gm : Nat) (P : Nat → Prop) (pa : Option Addr) (pc : Nat) (oa : Option Addr) (on_ oc base : Nat) (k : Tr.Wk) (p : Int) (lv : Int) (lo hi : Bnd) (va vb : Value)
 (hlv : lv = 17 - ((f + 1 : Nat) : Int)) (hA : Apart P B g gm base) (hW : Walks w g gm P pa pc oa on_ oc base s k) (hVa : IsBnd w va lo) (hVb : IsBnd w vb hi) (hFr : ∀ q, va.ownBlock = some q ∨ vb.ownBlock = some q → q ≠ g ∧ q ≠ gm ∧ (Value.slice oa on_ oc).ownBlock ≠ some q) (hbs : base ≤ w.heap.size) (hp0 : -9223372036854775808 ≤ p) (hp1 : p ≤ 9223372036854775807) (ho : Tr.open_ s p k = true) (hg : Tr.good s p lo hi = true) (hkn : (Tr.nod s p).2 = []):
 Calls Tryz.prog 61 #[.pointer (some ⟨g, 0, none⟩), .int .i64 p, .int .i64 lv, va, vb] w fun e w' => NodeDone s (f + 1) g gm P pa pc oa on_ oc base k p lo hi w e w' := by
 have HG0 : Hid _ := hg
 have HKn0 : Hid _ := hkn
 clear hg hkn
 obtain ⟨hb, p1, p2, hmet⟩ := Tr.open_iff.1 ho
 obtain ⟨q, hq⟩ := Int.eq_ofNat_of_zero_le (show 0 ≤ p - 1 by omega)
 obtain rfl : p = (q : Int) + 1 := by omega
 have HG : Hid (Tr.good s ((q : Int) + 1) lo hi = true) := HG0.out
 have HKn : Hid ((Tr.nod s ((q : Int) + 1)).2 = []) := HKn0.out
 have hql : q < s.length := by omega
 have hlen : s.length ≤ 2048 := hs
 rw [show ((q : Int) + 1).toNat - 1 = q by omega] at hmet
 have A : Hid _ := hA
 have HO : Hid _ := ho
 have HS0 : Hid (base ≤ w.heap.size) := hbs
 obtain ⟨xa, na, ca, rfl, hLo⟩ := hVa.parts
 obtain ⟨xb, nb, cb, rfl, hHi⟩ := hVb.parts
 have HLo : Hid _ := hLo
 have HHi : Hid _ := hHi
 have HFr : Hid _ := hFr
 have H : Hid _ := hW
 obtain ⟨c0, c1, c2, c3, c4⟩ := hW.five
 rw [hb] at c4
 have cm : w.cell? ⟨gm, q, none⟩ = some (.bool false) := by
  refine hW.met.cell ?_
  have hq' : q < k.met.length := by rw [hW.len]; exact hql
  rw [← hmet]
  simp [boolCells, List.getD, List.getElem?_eq_getElem hq']
 have fm := hW.met.frozen q
 obtain ⟨w1, hw1⟩ : ∃ w1, w.setCell ⟨gm, q, none⟩ (.bool true) = w1 := ⟨_, rfl⟩
 obtain ⟨k1, hk1⟩ : ∃ k1 : Tr.Wk, k1 = { k with met := k.met.set q true } := ⟨_, rfl⟩
 have HK1 : Hid _ := hk1
 have H1 : Hid (Walks w1 g gm P pa pc oa on_ oc base s k1) := by rw [← hw1, hk1]; exact hW.setMet hA q hql hmet
 have Q1 : Hid (Quiet g gm oa on_ oc w w1) := by rw [← hw1]; exact (Kept.refl _ w).setCell (p := ⟨gm, q, none⟩) (fun h => h.2.2.1 rfl) _
 have hz1 : w1.heap.size = w.heap.size := by rw [← hw1]; simp [World.setCell]
 have HZ1 : Hid _ := hz1
 have HMn : Hid (metN k1.met = metN k.met + 1) := by unfold Hid; rw [hk1]; exact metN_set k.met q (by rw [hW.len]; exact hql) hmet
 have HF0 : Hid (k.out.length ≤ 3 * metN k.met) := hW.few
 have HVa1 : Hid (IsBnd w1 (.slice xa na ca) lo) := hVa.keep (fun r hr => by rw [← hw1]; exact Below.heap_setCell _ _ _ _ (fun e => (hFr r (.inl hr)).2.1 e))
 have HVb1 : Hid (IsBnd w1 (.slice xb nb cb) hi) := hVb.keep (fun r hr => by rw [← hw1]; exact Below.heap_setCell _ _ _ _ (fun e => (hFr r (.inr hr)).2.1 e))
 obtain ⟨d0, d1, d2, d3, d4⟩ := H1.out.five
 obtain ⟨pb, off, rfl, -, -, hat⟩ := rLists_at H1.out.pages (by omega)
 obtain ⟨x, m, d, hpg, hml, cp⟩ := hat q hql
 have epg : s[q] = Tr.page s ((q : Int) + 1) := by unfold Tr.page; rw [show ((q : Int) + 1).toNat - 1 = q by omega]; simp [List.getD, List.getElem?_eq_getElem hql]
 rw [epg] at hpg
 obtain ⟨hpB, hpc, hpn, hpm⟩ := rBytes_isB hpg
 have HPB : Hid (IsB w1 x m (Tr.page s ((q : Int) + 1))) := hpB
 have HPc : Hid _ := hpc
 have HPn : Hid _ := hpn
 have HPm : Hid _ := hpm
 have hqz : (q : Int) < (s.length : Int) := by omega
 have hqy : ¬ (q : Int) + 1 > (s.length : Int) := by omega
 have hqx : ¬ (q : Int) + 1 < 1 := by omega
 have hlz : ¬ lv > 16 := by omega
 have hlz0 : 1 ≤ lv := by omega
 have HLv : Hid _ := hlv
 clear hA hW hVa hVb hFr hbs hLo hHi hb hmet hat hpg hml epg hpB hpc hpn hpm hq p1 p2 ho hk1 hz1 hlv
 clear hp0 hp1
 go_enter Tryz.func61, Tryz.ntmps61
 go_wp2_with fail
 refine (refDecode_u _ x m d (Tr.page s ((q : Int) + 1)) HPm.out HPc.out HPn.out HPB.out).mono ?_
 rintro e w2 ⟨v, u, rfl, hoI, hoK, b2⟩
 obtain ⟨ia, il, ic, rfl⟩ : ∃ a n c, v = .slice a n c := by obtain ⟨a, c, e, -⟩ := hoI.slice; exact ⟨a, _, c, e⟩
 obtain ⟨ka, kl, kc, rfl⟩ : ∃ a n c, u = .slice a n c := by obtain ⟨a, c, e, -⟩ := hoK.slice; exact ⟨a, _, c, e⟩
 obtain ⟨w3, hw3, V3, b3, z3⟩ := boxedRow w2 139 [.slice ia il ic, .slice ka kl kc]
 have b13 : Below w1.heap.size w1 w3 := on b2 b3
 have H3 : Hid _ := H1.out.below b13
 have R3 : Hid _ := V3
 have I3 : Hid (rItms.rd w3 (fun b => w1.heap.size ≤ b) [.slice ia il ic] (Tr.nod s ((q : Int) + 1)).1) := Rep.below (hoI.rd (by have := Lf.decodeN_len (Tr.page s ((q : Int) + 1)); show (Lf.decodeN _).1.length ≤ _; omega)) b3
 have K3 : Hid (rKids.rd w3 (fun b => w1.heap.size ≤ b) [.slice ka kl kc] (Tr.nod s ((q : Int) + 1)).2) := Rep.below (hoK.rd (by have := Lf.decodeN_len (Tr.page s ((q : Int) + 1)); show (Lf.decodeN _).2.length ≤ _; omega)) b3
 have Q3 : Hid (Quiet g gm oa on_ oc w w3) := ⟨b13.os.trans Q1.out.os, b13.tape.trans Q1.out.tape, b13.output.trans Q1.out.output, Nat.le_trans Q1.out.size b13.size, fun b hb => (b13.block b (by rw [HZ1.out]; exact hb.1)).trans (Q1.out.block b hb)⟩
 have HVa3 : Hid (IsBnd w3 (.slice xa na ca) lo) := HVa1.out.keep (fun r hr => b13.block r (HVa1.out.lt r hr))
 have HVb3 : Hid (IsBnd w3 (.slice xb nb cb) hi) := HVb1.out.keep (fun r hr => b13.block r (HVb1.out.lt r hr))
 have HZ3 : Hid (w.heap.size ≤ w2.heap.size) := by have := b2.size; rw [HZ1.out] at this; exact this
 have hgw : g < w.heap.size := H.out.row.lt
 have hg2 : g ≠ w2.heap.size := by have := HZ3.out; omega
 obtain ⟨E, hE⟩ : ∃ E, E = Lf.decodeE (Tr.page s ((q : Int) + 1)) := ⟨_, rfl⟩
 rw [← hE]
 have HE : Hid (E = Lf.decodeE (Tr.page s ((q : Int) + 1))) := hE
 obtain ⟨e0, e1, e2, e3, e4⟩ := H3.out.five
 have g4 := H3.out.row.frozen 4
 have HIl : Hid ((Tr.nod s ((q : Int) + 1)).1.length = il) := (rList_len I3.out).1
 have HKl : Hid ((Tr.nod s ((q : Int) + 1)).2.length = kl) := (rList_len K3.out).1
 have hil : il ≤ 3 := by rw [← HIl.out]; exact (Lf.decodeN_len _).1
 have hkl : kl ≤ 4 := by rw [← HKl.out]; exact (Lf.decodeN_len _).2
 have H4 : Hid (Walks (w3.setCell ⟨g, 4, none⟩ (.bool (E != 0))) g gm P (some ⟨pb, off, none⟩) pc oa on_ oc base s { k1 with bad := Tr.fault s ((q : Int) + 1) lo hi 0 }) := by
  rw [Tr.fault_zero, ← HE.out, show decide (E ≠ 0) = (E != 0) by cases h : (E != 0) <;> simp_all]
  exact H3.out.setBad A.out _
 clear hoI hoK b2 b3 b13 V3 z3 hE hw1 c0 c1 c2 c3 c4 cm fm d0 d1 d2 d3 d4 cp
 have BOX : Hid (∀ {wr : World}, Kept (· ≠ g) w3 wr → Row wr w2.heap.size 139 [.slice ia il ic, .slice ka kl kc]) := fun h => R3.out.keep (h.block _ (fun e => hg2 e.symm))
 have ITM : Hid (∀ {wr : World}, Kept (· ≠ g) w3 wr → rItms.rd wr (fun b => w1.heap.size ≤ b) [.slice ia il ic] (Tr.nod s ((q : Int) + 1)).1) := fun h => Rep.kept I3.out h (fun b hb _ => by have := HZ1.out; have := HS0.out; have := A.out.gb; omega)
 have BND : Hid (∀ {wr : World}, Kept (· ≠ g) w3 wr → IsBnd wr (.slice xa na ca) lo ∧ IsBnd wr (.slice xb nb cb) hi) := fun h => ⟨HVa3.out.keep (fun r hr => h.block r (HFr.out r (.inl hr)).1), HVb3.out.keep (fun r hr => h.block r (HFr.out r (.inr hr)).1)⟩
 have K4 : Hid (Kept (· ≠ g) w3 (w3.setCell ⟨g, 4, none⟩ (.bool (E != 0)))) := (Kept.refl _ w3).setCell (p := ⟨g, 4, none⟩) (fun h => h rfl) _
 go_wp2
 clear e0 e1 e2 e3 e4 g4 hw3
 go_loopw [12] (fun i wr => ∃ j : Nat, j ≤ il ∧ i = .int .i64 j ∧ Hid (Walks wr g gm P (some ⟨pb, off, none⟩) pc oa on_ oc base s { k1 with bad := Tr.fault s ((q : Int) + 1) lo hi j }) ∧ Hid (Kept (· ≠ g) w3 wr)) (fun i _ => il - (intOf i).toNat)
 case atStart => exact ⟨0, Nat.zero_le _, rfl, H4, K4⟩
 case round =>
  clear H4 K4
  obtain ⟨j, hj, rfl, HWr, HKr⟩ := hrel
  obtain ⟨e0, e1, e2, e3, e4⟩ := HWr.out.five
  have g4 := HWr.out.row.frozen 4
  obtain ⟨n0, n1⟩ := (BOX.out HKr.out).two
  by_cases hlt : j < il
  · have hjl : j < (Tr.nod s ((q : Int) + 1)).1.length := by rw [HIl.out]; exact hlt
    obtain ⟨g1, off1, rfl, -, -, hat⟩ := rItms_at (ITM.out HKr.out) (by omega)
    obtain ⟨i0, i1⟩ := hat j hjl
    have HNx : Hid _ := Tr.fault_succ lo hi hjl
    obtain ⟨Y, hY⟩ : ∃ Y, Y = (Tr.nod s ((q : Int) + 1)).1[j] := ⟨_, rfl⟩
    rw [← hY] at i0 i1 HNx
    clear hat hY
    have hjz : (j : Int) < (il : Int) := by omega
    have HBa : Hid _ := BND.out HKr.out
    cases hbj : Tr.fault s ((q : Int) + 1) lo hi j
    · rw [hbj] at e4
      rcases HLo.out with ⟨h2, rfl, rfl, rfl⟩ | ⟨a, qa, h2, rfl, rfl, rfl⟩
      · have hab : Tr.above lo Y.1 = true := by rw [h2]; rfl
        rcases HHi.out with ⟨h1, rfl, rfl, rfl⟩ | ⟨b, qb, h1, rfl, rfl, rfl⟩
        · have hun : Tr.under hi Y.1 = true := by rw [h1]; rfl
          have HN : Hid (Tr.fault s ((q : Int) + 1) lo hi (j + 1) = false) := by unfold Hid; rw [HNx.out, hbj]; show (false || !(Tr.above lo Y.1 && Tr.under hi Y.1)) = false; rw [hab, hun]; rfl
          have HW5 : Hid (Walks (wr.setCell ⟨g, 4, none⟩ (.bool false)) g gm P (some ⟨pb, off, none⟩) pc oa on_ oc base s { k1 with bad := Tr.fault s ((q : Int) + 1) lo hi (j + 1) }) := by rw [HN.out]; exact HWr.out.setBad A.out false
          have HK5 : Hid (Kept (· ≠ g) w3 (wr.setCell ⟨g, 4, none⟩ (.bool false))) := HKr.out.setCell (p := ⟨g, 4, none⟩) (fun h => h rfl) _
          clear HNx hbj
          go_wp2
          go_roundw
          case rel => exact ⟨j + 1, by omega, by go_num, HW5, HK5⟩
          case measure => simp [intOf]; omega
        · have hcb := (HBa.out.2 : IsBnd wr _ hi)
          rw [h1] at hcb
          have cb := hcb.cell
          clear hcb
          by_cases hge : b.toNat ≤ Y.1.toNat
          · have hun : Tr.under hi Y.1 = false := by rw [h1]; unfold Tr.under; simp; omega
            have hgz : (Y.1.toNat : Int) ≥ (b.toNat : Int) := by omega
            have HN : Hid (Tr.fault s ((q : Int) + 1) lo hi (j + 1) = true) := by unfold Hid; rw [HNx.out, hbj]; show (false || !(Tr.above lo Y.1 && Tr.under hi Y.1)) = true; rw [hab, hun]; rfl
            have HW5 : Hid (Walks (wr.setCell ⟨g, 4, none⟩ (.bool true)) g gm P (some ⟨pb, off, none⟩) pc oa on_ oc base s { k1 with bad := Tr.fault s ((q : Int) + 1) lo hi (j + 1) }) := by rw [HN.out]; exact HWr.out.setBad A.out true
            have HK5 : Hid (Kept (· ≠ g) w3 (wr.setCell ⟨g, 4, none⟩ (.bool true))) := HKr.out.setCell (p := ⟨g, 4, none⟩) (fun h => h rfl) _
            clear HNx hbj
            go_wp2
            go_roundw
            case rel => exact ⟨j + 1, by omega, by go_num, HW5, HK5⟩
            case measure => simp [intOf]; omega
          · have hun : Tr.under hi Y.1 = true := by rw [h1]; unfold Tr.under; simp; omega
            have hgz : ¬ (Y.1.toNat : Int) ≥ (b.toNat : Int) := by omega
            have HN : Hid (Tr.fault s ((q : Int) + 1) lo hi (j + 1) = false) := by unfold Hid; rw [HNx.out, hbj]; show (false || !(Tr.above lo Y.1 && Tr.under hi Y.1)) = false; rw [hab, hun]; rfl
            have HW5 : Hid (Walks (wr.setCell ⟨g, 4, none⟩ (.bool false)) g gm P (some ⟨pb, off, none⟩) pc oa on_ oc base s { k1 with bad := Tr.fault s ((q : Int) + 1) lo hi (j + 1) }) := by rw [HN.out]; exact HWr.out.setBad A.out false
            have HK5 : Hid (Kept (· ≠ g) w3 (wr.setCell ⟨g, 4, none⟩ (.bool false))) := HKr.out.setCell (p := ⟨g, 4, none⟩) (fun h => h rfl) _
            clear HNx hbj
            go_wp2
            go_roundw
            case rel => exact ⟨j + 1, by omega, by go_num, HW5, HK5⟩
            case measure => simp [intOf]; omega
      · have hca := (HBa.out.1 : IsBnd wr _ lo)
        rw [h2] at hca
        have ca := hca.cell
        clear hca
        by_cases hlow : Y.1.toNat < a.toNat
        · have hab : Tr.above lo Y.1 = false := by rw [h2]; unfold Tr.above; simp; omega
          have hlz2 : (Y.1.toNat : Int) < (a.toNat : Int) := by omega
          have HN : Hid (Tr.fault s ((q : Int) + 1) lo hi (j + 1) = true) := by unfold Hid; rw [HNx.out, hbj]; show (false || !(Tr.above lo Y.1 && Tr.under hi Y.1)) = true; rw [hab]; rfl
          have HW5 : Hid (Walks (wr.setCell ⟨g, 4, none⟩ (.bool true)) g gm P (some ⟨pb, off, none⟩) pc oa on_ oc base s { k1 with bad := Tr.fault s ((q : Int) + 1) lo hi (j + 1) }) := by rw [HN.out]; exact HWr.out.setBad A.out true
          have HK5 : Hid (Kept (· ≠ g) w3 (wr.setCell ⟨g, 4, none⟩ (.bool true))) := HKr.out.setCell (p := ⟨g, 4, none⟩) (fun h => h rfl) _
          clear HNx hbj
          go_wp2
          go_roundw
          case rel => exact ⟨j + 1, by omega, by go_num, HW5, HK5⟩
          case measure => simp [intOf]; omega
        · have hab : Tr.above lo Y.1 = true := by rw [h2]; unfold Tr.above; simp; omega
          have hlz2 : ¬ (Y.1.toNat : Int) < (a.toNat : Int) := by omega
          rcases HHi.out with ⟨h1, rfl, rfl, rfl⟩ | ⟨b, qb, h1, rfl, rfl, rfl⟩
          · have hun : Tr.under hi Y.1 = true := by rw [h1]; rfl
            have HN : Hid (Tr.fault s ((q : Int) + 1) lo hi (j + 1) = false) := by unfold Hid; rw [HNx.out, hbj]; show (false || !(Tr.above lo Y.1 && Tr.under hi Y.1)) = false; rw [hab, hun]; rfl
            have HW5 : Hid (Walks (wr.setCell ⟨g, 4, none⟩ (.bool false)) g gm P (some ⟨pb, off, none⟩) pc oa on_ oc base s { k1 with bad := Tr.fault s ((q : Int) + 1) lo hi (j + 1) }) := by rw [HN.out]; exact HWr.out.setBad A.out false
            have HK5 : Hid (Kept (· ≠ g) w3 (wr.setCell ⟨g, 4, none⟩ (.bool false))) := HKr.out.setCell (p := ⟨g, 4, none⟩) (fun h => h rfl) _
            clear HNx hbj
            go_wp2
            go_roundw
            case rel => exact ⟨j + 1, by omega, by go_num, HW5, HK5⟩
            case measure => simp [intOf]; omega
          · have hcb := (HBa.out.2 : IsBnd wr _ hi)
            rw [h1] at hcb
            have cb := hcb.cell
            clear hcb
            by_cases hge : b.toNat ≤ Y.1.toNat
            · have hun : Tr.under hi Y.1 = false := by rw [h1]; unfold Tr.under; simp; omega
              have hgz : (Y.1.toNat : Int) ≥ (b.toNat : Int) := by omega
              have HN : Hid (Tr.fault s ((q : Int) + 1) lo hi (j + 1) = true) := by unfold Hid; rw [HNx.out, hbj]; show (false || !(Tr.above lo Y.1 && Tr.under hi Y.1)) = true; rw [hab, hun]; rfl
              have HW5 : Hid (Walks (wr.setCell ⟨g, 4, none⟩ (.bool true)) g gm P (some ⟨pb, off, none⟩) pc oa on_ oc base s { k1 with bad := Tr.fault s ((q : Int) + 1) lo hi (j + 1) }) := by rw [HN.out]; exact HWr.out.setBad A.out true
              have HK5 : Hid (Kept (· ≠ g) w3 (wr.setCell ⟨g, 4, none⟩ (.bool true))) := HKr.out.setCell (p := ⟨g, 4, none⟩) (fun h => h rfl) _
              clear HNx hbj
              go_wp2
              go_roundw
              case rel => exact ⟨j + 1, by omega, by go_num, HW5, HK5⟩
              case measure => simp [intOf]; omega
            · have hun : Tr.under hi Y.1 = true := by rw [h1]; unfold Tr.under; simp; omega
              have hgz : ¬ (Y.1.toNat : Int) ≥ (b.toNat : Int) := by omega
              have HN : Hid (Tr.fault s ((q : Int) + 1) lo hi (j + 1) = false) := by unfold Hid; rw [HNx.out, hbj]; show (false || !(Tr.above lo Y.1 && Tr.under hi Y.1)) = false; rw [hab, hun]; rfl
              have HW5 : Hid (Walks (wr.setCell ⟨g, 4, none⟩ (.bool false)) g gm P (some ⟨pb, off, none⟩) pc oa on_ oc base s { k1 with bad := Tr.fault s ((q : Int) + 1) lo hi (j + 1) }) := by rw [HN.out]; exact HWr.out.setBad A.out false
              have HK5 : Hid (Kept (· ≠ g) w3 (wr.setCell ⟨g, 4, none⟩ (.bool false))) := HKr.out.setCell (p := ⟨g, 4, none⟩) (fun h => h rfl) _
              clear HNx hbj
              go_wp2
              go_roundw
              case rel => exact ⟨j + 1, by omega, by go_num, HW5, HK5⟩
              case measure => simp [intOf]; omega
    · rw [hbj] at e4
      have HN : Hid (Tr.fault s ((q : Int) + 1) lo hi (j + 1) = true) := by unfold Hid; rw [HNx.out, hbj]; rfl
      have HW5 : Hid (Walks (wr.setCell ⟨g, 4, none⟩ (.bool true)) g gm P (some ⟨pb, off, none⟩) pc oa on_ oc base s { k1 with bad := Tr.fault s ((q : Int) + 1) lo hi (j + 1) }) := by rw [HN.out]; exact HWr.out.setBad A.out true
      have HK5 : Hid (Kept (· ≠ g) w3 (wr.setCell ⟨g, 4, none⟩ (.bool true))) := HKr.out.setCell (p := ⟨g, 4, none⟩) (fun h => h rfl) _
      clear HNx hbj
      go_wp2
      go_roundw
      case rel => exact ⟨j + 1, by omega, by go_num, HW5, HK5⟩
      case measure => simp [intOf]; omega
  · obtain rfl : il = j := by omega
    have HFa : Hid (Tr.fault s ((q : Int) + 1) lo hi il = !Tr.good s ((q : Int) + 1) lo hi) := by have h := Tr.fault_all s ((q : Int) + 1) lo hi; rw [HIl.out] at h; exact h
    rw [HFa.out] at HWr e4
    rw [HG.out] at HWr e4
    have hk0 : ((kl : Int) == 0) = true := by have h := HKl.out; rw [HKn.out] at h; simp only [List.length_nil] at h; rw [beq_iff_eq]; omega
    obtain ⟨L, hL⟩ : ∃ L : Nat, L = 16 - f := ⟨_, rfl⟩
    obtain rfl : lv = (L : Int) := by have := HLv.out; omega
    have HLL : Hid (L = 16 - f) := hL
    clear hL
    have HK1l : Hid (k1.leaf = k.leaf) := by rw [HK1.out]; rfl
    have HO1 : Hid (k1.out = k.out) := by rw [HK1.out]; rfl
    by_cases hL0 : k1.leaf = 0
    · have HEq : Hid (Tr.node s (f + 1) ((q : Int) + 1) lo hi k = { k1 with bad := false, leaf := L, out := k1.out ++ (Tr.nod s ((q : Int) + 1)).1 }) := by
       unfold Hid Tr.node
       rw [HLL.out, if_pos HO.out, HG.out, if_pos rfl, if_pos HKn.out, show (decide (0 < k.leaf) && decide (k.leaf ≠ 16 - f)) = false by rw [← HK1l.out, hL0]; rfl, HK1.out, show ((q : Int) + 1).toNat - 1 = q by omega]
      have e3n : wr.cell? ⟨g, 3, none⟩ = some (.int .i64 0) := by have h := e3; simp only [hL0] at h; exact h
      clear hL0 e3
      obtain ⟨w5, hw5⟩ : ∃ w5, wr.setCell ⟨g, 4, none⟩ (.bool false) = w5 := ⟨_, rfl⟩
      obtain ⟨w6, hw6⟩ : ∃ w6, w5.setCell ⟨g, 3, none⟩ (.int .i64 (L : Int)) = w6 := ⟨_, rfl⟩
      have H5 : Hid (Walks w5 g gm P (some ⟨pb, off, none⟩) pc oa on_ oc base s { k1 with bad := false }) := by rw [← hw5]; exact HWr.out.setBad A.out false
      have H6 : Hid (Walks w6 g gm P (some ⟨pb, off, none⟩) pc oa on_ oc base s { k1 with bad := false, leaf := L }) := by rw [← hw6]; exact H5.out.setLeaf A.out L
      have K6 : Hid (Kept (· ≠ g) w3 w6) := by rw [← hw6, ← hw5]; exact (HKr.out.setCell (p := ⟨g, 4, none⟩) (fun h => h rfl) _).setCell (p := ⟨g, 3, none⟩) (fun h => h rfl) _
      obtain ⟨y0, y1, y2, y3, y4⟩ := H5.out.five
      have y5 := H5.out.row.frozen 3
      have y6 := H5.out.row.frozen 4
      obtain ⟨x0, x1, x2, x3, x4⟩ := H6.out.five
      obtain ⟨m0, m1⟩ := (BOX.out K6.out).two
      have hsz6 : base ≤ w6.heap.size := Nat.le_trans HS0.out (Nat.le_trans Q3.out.size K6.out.size)
      have hol : k1.out.length ≤ 6144 := by have h1 := HF0.out; have h2 := metN_le k.met; have h3 := H.out.len; rw [HO1.out]; omega
      obtain ⟨v7, w7, hr7, ho7, gr7⟩ := run_append_itms (w := w6.drew) (l := k1.out) (H6.out.out.keep (fun _ _ _ => rfl)) (Rep.below (ITM.out K6.out) (Below.refl _ w6).drew) (by omega) hsz6 36
      obtain ⟨a7, n7, c7, rfl⟩ : ∃ a n c, v7 = .slice a n c := by obtain ⟨a, c, e, -⟩ := ho7.slice; exact ⟨a, _, c, e⟩
      have HRun : Hid _ := hr7
      have hI3 : (Tr.nod s ((q : Int) + 1)).1.length ≤ 3 := (Lf.decodeN_len _).1
      have H6d : Hid (Walks w6.drew g gm P (some ⟨pb, off, none⟩) pc oa on_ oc base s { k1 with bad := false, leaf := L }) := H6.out.below (Below.refl _ w6).drew
      have H8 : Hid (Walks (w7.setCell ⟨g, 2, none⟩ (.slice a7 n7 c7)) g gm P (some ⟨pb, off, none⟩) pc a7 n7 c7 base s { k1 with bad := false, leaf := L, out := k1.out ++ (Tr.nod s ((q : Int) + 1)).1 }) :=
       H6d.out.grow A.out ho7 gr7 (by have h1 := HF0.out; have h2 := HMn.out; simp only [List.length_append]; rw [HO1.out]; omega)
      have Q8 : Hid (Quiet g gm oa on_ oc w (w7.setCell ⟨g, 2, none⟩ (.slice a7 n7 c7))) := Kept.setCell (p := ⟨g, 2, none⟩) ⟨gr7.grown.os.trans (K6.out.os.trans Q3.out.os), gr7.grown.tape.trans (K6.out.tape.trans Q3.out.tape), gr7.grown.output.trans (K6.out.output.trans Q3.out.output), Nat.le_trans Q3.out.size (Nat.le_trans K6.out.size gr7.grown.size), fun b hb => (gr7.grown.block b (Nat.lt_of_lt_of_le hb.1 (Nat.le_trans Q3.out.size K6.out.size)) (fun e => hb.2.2.2 e.symm)).trans ((K6.out.block b hb.2.1).trans (Q3.out.block b hb))⟩ (fun h => h.2.1 rfl) _
      have PL8 : Hid (∀ r, (Value.slice a7 n7 c7).ownBlock = some r → (Value.slice oa on_ oc).ownBlock = some r ∨ w.heap.size ≤ r) := fun r hr => (gr7.place r hr).imp id (fun h => Nat.le_trans (Nat.le_trans Q3.out.size K6.out.size) h)
      have o0 := (H6d.out.row.grew gr7 (fun e => by have := (H6d.out.ownLt g e).1; have := A.out.gb; omega)).frozen 2
      have o1 := (H6d.out.row.grew gr7 (fun e => by have := (H6d.out.ownLt g e).1; have := A.out.gb; omega)).cell (j := 2) rfl
      clear hr7 ho7 gr7
      go_wp2_with fail
      refine wp_region_held_drew (S := (fun _ : World => True)) (by kernel_rfl) (trivial) (fun hH => ?_)
      refine tkM 0 _ rfl rfl ?_; simp only [sz, ss]
      refine tkM 1 _ rfl rfl ?_; simp only [sz, ss]
      refine tkM 2 _ rfl rfl ?_; simp only [sz, ss]
      refine tkM 3 _ rfl rfl ?_; simp only [sz, ss]
      refine tkM 5 _ rfl rfl ?_; simp only [sz, ss]
      refine rdL [4, 6] ?_
      refine rcL (fun K hK => ?_) ?_
      · go_simp
        refine hK.out _ _ ?_ (fun hH => ?_)
        · try dsimp only
          all_goals trivial
        clear hK K
        refine r1L 6 rfl fun K hK => ?_
        · go_simp
          refine hK.out _ _ ?_ (fun hH => ?_)
          · try dsimp only
            all_goals trivial
          clear hK K
          refine r1L 7 rfl fun K hK => ?_
          · refine held_append rfl (by rfl) _ _ _ rfl _ _ _ rfl rfl HRun.out ?_
            simp only [sz, ss]
            refine hK.out _ _ ?_ (fun hH => ?_)
            · try dsimp only
              all_goals trivial
            clear hK K
            refine tkM 8 _ rfl rfl ?_; simp only [sz, ss]
            refine tkM 9 _ rfl rfl ?_; simp only [sz, ss]
            refine r1L 10 rfl fun K hK => ?_
            · go_simp
              refine hK.out _ _ ?_ (fun hH => ?_)
              · try dsimp only
                all_goals trivial
              clear hK K
              refine wpAnyH_done (by kernel_rfl) ?_ _
              clear hH
              go_wp2
              (try simp only [Exit.inBlock, Exit.then])
              refine bodyPost_ret (results_none rfl _ _ _) rfl ?_
              exact NodeDone.of ⟨a7, n7, c7, rfl, by rw [HEq.out]; exact H8.out, Q8.out, PL8.out⟩
      refine rcL (fun K hK => ?_) ?_
      · go_simp
        refine hK.out _ _ ?_ (fun hH => ?_)
        · try dsimp only
          all_goals trivial
        clear hK K
        refine r1L 4 rfl fun K hK => ?_
        · go_simp
          refine hK.out _ _ ?_ (fun hH => ?_)
          · try dsimp only
            all_goals trivial
          clear hK K
          refine r1L 7 rfl fun K hK => ?_
          · refine held_append rfl (by rfl) _ _ _ rfl _ _ _ rfl rfl HRun.out ?_
            simp only [sz, ss]
            refine hK.out _ _ ?_ (fun hH => ?_)
            · try dsimp only
              all_goals trivial
            clear hK K
            refine tkM 8 _ rfl rfl ?_; simp only [sz, ss]
            refine tkM 9 _ rfl rfl ?_; simp only [sz, ss]
            refine r1L 10 rfl fun K hK => ?_
            · go_simp
              refine hK.out _ _ ?_ (fun hH => ?_)
              · try dsimp only
                all_goals trivial
              clear hK K
              refine wpAnyH_done (by kernel_rfl) ?_ _
              clear hH
              go_wp2
              (try simp only [Exit.inBlock, Exit.then])
              refine bodyPost_ret (results_none rfl _ _ _) rfl ?_
              exact NodeDone.of ⟨a7, n7, c7, rfl, by rw [HEq.out]; exact H8.out, Q8.out, PL8.out⟩
      exact rnL
    · obtain ⟨X, hX⟩ : ∃ X : Bool, ((k1.leaf : Int) != (L : Int)) = X := ⟨_, rfl⟩
      obtain ⟨lf, hlf⟩ : ∃ lf : Nat, lf = k1.leaf := ⟨_, rfl⟩
      have HEq : Hid (Tr.node s (f + 1) ((q : Int) + 1) lo hi k = { k1 with bad := X, leaf := L, out := k1.out ++ (Tr.nod s ((q : Int) + 1)).1 }) := by
       have hX2 : (decide (0 < k.leaf) && decide (k.leaf ≠ 16 - f)) = X := by
        rw [← HK1l.out, decide_eq_true (show 0 < k1.leaf by omega), Bool.true_and, ← hX, Bool.eq_iff_iff, decide_eq_true_eq, bne_iff_ne]
        have := HLL.out
        omega
       unfold Hid Tr.node
       rw [HLL.out, if_pos HO.out, HG.out, if_pos rfl, if_pos HKn.out, hX2, HK1.out, show ((q : Int) + 1).toNat - 1 = q by omega]
      have e3n : wr.cell? ⟨g, 3, none⟩ = some (.int .i64 (lf : Int)) := by rw [hlf]; exact e3
      have hLz : (lf : Int) > 0 := by omega
      rw [← hlf] at hX
      clear hL0 hlf e3
      obtain ⟨w5, hw5⟩ : ∃ w5, wr.setCell ⟨g, 4, none⟩ (.bool X) = w5 := ⟨_, rfl⟩
      obtain ⟨w6, hw6⟩ : ∃ w6, w5.setCell ⟨g, 3, none⟩ (.int .i64 (L : Int)) = w6 := ⟨_, rfl⟩
      have H5 : Hid (Walks w5 g gm P (some ⟨pb, off, none⟩) pc oa on_ oc base s { k1 with bad := X }) := by rw [← hw5]; exact HWr.out.setBad A.out X
      have H6 : Hid (Walks w6 g gm P (some ⟨pb, off, none⟩) pc oa on_ oc base s { k1 with bad := X, leaf := L }) := by rw [← hw6]; exact H5.out.setLeaf A.out L
      have K6 : Hid (Kept (· ≠ g) w3 w6) := by rw [← hw6, ← hw5]; exact (HKr.out.setCell (p := ⟨g, 4, none⟩) (fun h => h rfl) _).setCell (p := ⟨g, 3, none⟩) (fun h => h rfl) _
      obtain ⟨y0, y1, y2, y3, y4⟩ := H5.out.five
      have y5 := H5.out.row.frozen 3
      have y6 := H5.out.row.frozen 4
      obtain ⟨x0, x1, x2, x3, x4⟩ := H6.out.five
      obtain ⟨m0, m1⟩ := (BOX.out K6.out).two
      have hsz6 : base ≤ w6.heap.size := Nat.le_trans HS0.out (Nat.le_trans Q3.out.size K6.out.size)
      have hol : k1.out.length ≤ 6144 := by have h1 := HF0.out; have h2 := metN_le k.met; have h3 := H.out.len; rw [HO1.out]; omega
      obtain ⟨v7, w7, hr7, ho7, gr7⟩ := run_append_itms (w := w6.drew) (l := k1.out) (H6.out.out.keep (fun _ _ _ => rfl)) (Rep.below (ITM.out K6.out) (Below.refl _ w6).drew) (by omega) hsz6 36
      obtain ⟨a7, n7, c7, rfl⟩ : ∃ a n c, v7 = .slice a n c := by obtain ⟨a, c, e, -⟩ := ho7.slice; exact ⟨a, _, c, e⟩
      have HRun : Hid _ := hr7
      have hI3 : (Tr.nod s ((q : Int) + 1)).1.length ≤ 3 := (Lf.decodeN_len _).1
      have H6d : Hid (Walks w6.drew g gm P (some ⟨pb, off, none⟩) pc oa on_ oc base s { k1 with bad := X, leaf := L }) := H6.out.below (Below.refl _ w6).drew
      have H8 : Hid (Walks (w7.setCell ⟨g, 2, none⟩ (.slice a7 n7 c7)) g gm P (some ⟨pb, off, none⟩) pc a7 n7 c7 base s { k1 with bad := X, leaf := L, out := k1.out ++ (Tr.nod s ((q : Int) + 1)).1 }) :=
       H6d.out.grow A.out ho7 gr7 (by have h1 := HF0.out; have h2 := HMn.out; simp only [List.length_append]; rw [HO1.out]; omega)
      have Q8 : Hid (Quiet g gm oa on_ oc w (w7.setCell ⟨g, 2, none⟩ (.slice a7 n7 c7))) := Kept.setCell (p := ⟨g, 2, none⟩) ⟨gr7.grown.os.trans (K6.out.os.trans Q3.out.os), gr7.grown.tape.trans (K6.out.tape.trans Q3.out.tape), gr7.grown.output.trans (K6.out.output.trans Q3.out.output), Nat.le_trans Q3.out.size (Nat.le_trans K6.out.size gr7.grown.size), fun b hb => (gr7.grown.block b (Nat.lt_of_lt_of_le hb.1 (Nat.le_trans Q3.out.size K6.out.size)) (fun e => hb.2.2.2 e.symm)).trans ((K6.out.block b hb.2.1).trans (Q3.out.block b hb))⟩ (fun h => h.2.1 rfl) _
      have PL8 : Hid (∀ r, (Value.slice a7 n7 c7).ownBlock = some r → (Value.slice oa on_ oc).ownBlock = some r ∨ w.heap.size ≤ r) := fun r hr => (gr7.place r hr).imp id (fun h => Nat.le_trans (Nat.le_trans Q3.out.size K6.out.size) h)
      have o0 := (H6d.out.row.grew gr7 (fun e => by have := (H6d.out.ownLt g e).1; have := A.out.gb; omega)).frozen 2
      have o1 := (H6d.out.row.grew gr7 (fun e => by have := (H6d.out.ownLt g e).1; have := A.out.gb; omega)).cell (j := 2) rfl
      clear hr7 ho7 gr7
      go_wp2_with fail
      refine wp_region_held_drew (S := (fun _ : World => True)) (by kernel_rfl) (trivial) (fun hH => ?_)
      refine tkM 0 _ rfl rfl ?_; simp only [sz, ss]
      refine tkM 1 _ rfl rfl ?_; simp only [sz, ss]
      refine tkM 2 _ rfl rfl ?_; simp only [sz, ss]
      refine tkM 3 _ rfl rfl ?_; simp only [sz, ss]
      refine tkM 5 _ rfl rfl ?_; simp only [sz, ss]
      refine rdL [4, 6] ?_
      refine rcL (fun K hK => ?_) ?_
      · go_simp
        refine hK.out _ _ ?_ (fun hH => ?_)
        · try dsimp only
          all_goals trivial
        clear hK K
        refine r1L 6 rfl fun K hK => ?_
        · go_simp
          refine hK.out _ _ ?_ (fun hH => ?_)
          · try dsimp only
            all_goals trivial
          clear hK K
          refine r1L 7 rfl fun K hK => ?_
          · refine held_append rfl (by rfl) _ _ _ rfl _ _ _ rfl rfl HRun.out ?_
            simp only [sz, ss]
            refine hK.out _ _ ?_ (fun hH => ?_)
            · try dsimp only
              all_goals trivial
            clear hK K
            refine tkM 8 _ rfl rfl ?_; simp only [sz, ss]
            refine tkM 9 _ rfl rfl ?_; simp only [sz, ss]
            refine r1L 10 rfl fun K hK => ?_
            · go_simp
              refine hK.out _ _ ?_ (fun hH => ?_)
              · try dsimp only
                all_goals trivial
              clear hK K
              refine wpAnyH_done (by kernel_rfl) ?_ _
              clear hH
              go_wp2
              (try simp only [Exit.inBlock, Exit.then])
              refine bodyPost_ret (results_none rfl _ _ _) rfl ?_
              exact NodeDone.of ⟨a7, n7, c7, rfl, by rw [HEq.out]; exact H8.out, Q8.out, PL8.out⟩
      refine rcL (fun K hK => ?_) ?_
      · go_simp
        refine hK.out _ _ ?_ (fun hH => ?_)
        · try dsimp only
          all_goals trivial
        clear hK K
        refine r1L 4 rfl fun K hK => ?_
        · go_simp
          refine hK.out _ _ ?_ (fun hH => ?_)
          · try dsimp only
            all_goals trivial
          clear hK K
          refine r1L 7 rfl fun K hK => ?_
          · refine held_append rfl (by rfl) _ _ _ rfl _ _ _ rfl rfl HRun.out ?_
            simp only [sz, ss]
            refine hK.out _ _ ?_ (fun hH => ?_)
            · try dsimp only
              all_goals trivial
            clear hK K
            refine tkM 8 _ rfl rfl ?_; simp only [sz, ss]
            refine tkM 9 _ rfl rfl ?_; simp only [sz, ss]
            refine r1L 10 rfl fun K hK => ?_
            · go_simp
              refine hK.out _ _ ?_ (fun hH => ?_)
              · try dsimp only
                all_goals trivial
              clear hK K
              refine wpAnyH_done (by kernel_rfl) ?_ _
              clear hH
              go_wp2
              (try simp only [Exit.inBlock, Exit.then])
              refine bodyPost_ret (results_none rfl _ _ _) rfl ?_
              exact NodeDone.of ⟨a7, n7, c7, rfl, by rw [HEq.out]; exact H8.out, Q8.out, PL8.out⟩
      exact rnL
end Go.Proofs.YtkbmadoaomoojaaGreat
