/-
  Facts that the proof rests on, part 37. Conditions: those that each of them names.
-/
import Derived.Test.YtkbmadoaomoojaaGreatK13
import Derived.Test.YtkbmadoaomoojaaGreatK35
namespace Go.Proofs.YtkbmadoaomoojaaGreat
set_option maxRecDepth 20000
open Go.RowKit
set_option linter.unusedVariables false
set_option maxRecDepth 20000 in
set_option maxHeartbeats 8000000 in
theorem node_kids (s : Pgs) (hs : s.length ≤ 2048) (f : Nat) (hf : f < 16) (hIH : NodeSaid s f) (w : World) (B g gm : Nat) (P : Nat → Prop) (pa : Option Addr) (pc : Nat) (oa : Option Addr) (on_ oc base : Nat) (k : Tr.Wk) (p : Int) (lv : Int) (lo hi : Bnd) (va vb : Value)
 (hlv : lv = 17 - ((f + 1 : Nat) : Int)) (hA : Apart P B g gm base) (hW : Walks w g gm P pa pc oa on_ oc base s k) (hVa : IsBnd w va lo) (hVb : IsBnd w vb hi) (hFr : ∀ q, va.ownBlock = some q ∨ vb.ownBlock = some q → q ≠ g ∧ q ≠ gm ∧ (Value.slice oa on_ oc).ownBlock ≠ some q) (hbs : base ≤ w.heap.size) (hp0 : -9223372036854775808 ≤ p) (hp1 : p ≤ 9223372036854775807) (ho : Tr.open_ s p k = true) (hg : Tr.good s p lo hi = true) (hkn : (Tr.nod s p).2 ≠ []):
 Calls Tryz.prog 61 #[.pointer (some ⟨g, 0, none⟩), .int .i64 p, .int .i64 lv, va, vb] w fun e w' => NodeDone s (f + 1) g gm P pa pc oa on_ oc base k p lo hi w e w' := by
 have HG0 : Hid _ := hg
 have HKn0 : Hid _ := hkn
 have IH : Hid (NodeSaid s f) := hIH
 clear hg hkn hIH
 obtain ⟨hb, p1, p2, hmet⟩ := Tr.open_iff.1 ho
 obtain ⟨q, hq⟩ := Int.eq_ofNat_of_zero_le (show 0 ≤ p - 1 by omega)
 obtain rfl : p = (q : Int) + 1 := by omega
 have HG : Hid (Tr.good s ((q : Int) + 1) lo hi = true) := HG0.out
 have HKn : Hid ((Tr.nod s ((q : Int) + 1)).2 ≠ []) := HKn0.out
 have hql : q < s.length := by omega
 have hlen : s.length ≤ 2048 := hs
 rw [show ((q : Int) + 1).toNat - 1 = q by omega] at hmet
 have A : Hid _ := hA
 have HO : Hid _ := ho
 have HS0 : Hid (base ≤ w.heap.size) := hbs
 obtain ⟨xa, na, ca, rfl, hLo⟩ := hVa.parts
 obtain ⟨xb, nb, cb, rfl, hHi⟩ := hVb.parts
 have HLa : Hid (∀ r, (Value.slice xa na ca).ownBlock = some r ∨ (Value.slice xb nb cb).ownBlock = some r → r < w.heap.size) := fun r h => h.elim (hVa.lt r) (hVb.lt r)
 have HLo : Hid _ := hLo
 have HHi : Hid _ := hHi
 have HFr : Hid _ := hFr
 have H : Hid _ := hW
 obtain ⟨c0, c1, c2, c3, c4⟩ := hW.five
 rw [hb] at c4
 have cm : w.cell? ⟨gm, q, none⟩ = some (.bool false) := by
  refine hW.met.cell ?_
  have hq' : q < k.met.length := by rw [hW.len]; exact hql
  rw [← hmet]
  simp [boolCells, List.getD, List.getElem?_eq_getElem hq']
 have fm := hW.met.frozen q
 obtain ⟨w1, hw1⟩ : ∃ w1, w.setCell ⟨gm, q, none⟩ (.bool true) = w1 := ⟨_, rfl⟩
 obtain ⟨k1, hk1⟩ : ∃ k1 : Tr.Wk, k1 = { k with met := k.met.set q true } := ⟨_, rfl⟩
 have HK1 : Hid _ := hk1
 have H1 : Hid (Walks w1 g gm P pa pc oa on_ oc base s k1) := by rw [← hw1, hk1]; exact hW.setMet hA q hql hmet
 have Q1 : Hid (Quiet g gm oa on_ oc w w1) := by rw [← hw1]; exact (Kept.refl _ w).setCell (p := ⟨gm, q, none⟩) (fun h => h.2.2.1 rfl) _
 have hz1 : w1.heap.size = w.heap.size := by rw [← hw1]; simp [World.setCell]
 have HZ1 : Hid _ := hz1
 have HMn : Hid (metN k1.met = metN k.met + 1) := by unfold Hid; rw [hk1]; exact metN_set k.met q (by rw [hW.len]; exact hql) hmet
 have HF0 : Hid (k.out.length ≤ 3 * metN k.met) := hW.few
 have HVa1 : Hid (IsBnd w1 (.slice xa na ca) lo) := hVa.keep (fun r hr => by rw [← hw1]; exact Below.heap_setCell _ _ _ _ (fun e => (hFr r (.inl hr)).2.1 e))
 have HVb1 : Hid (IsBnd w1 (.slice xb nb cb) hi) := hVb.keep (fun r hr => by rw [← hw1]; exact Below.heap_setCell _ _ _ _ (fun e => (hFr r (.inr hr)).2.1 e))
 obtain ⟨d0, d1, d2, d3, d4⟩ := H1.out.five
 obtain ⟨pb, off, rfl, -, -, hat⟩ := rLists_at H1.out.pages (by omega)
 obtain ⟨x, m, d, hpg, hml, cp⟩ := hat q hql
 have epg : s[q] = Tr.page s ((q : Int) + 1) := by unfold Tr.page; rw [show ((q : Int) + 1).toNat - 1 = q by omega]; simp [List.getD, List.getElem?_eq_getElem hql]
 rw [epg] at hpg
 obtain ⟨hpB, hpc, hpn, hpm⟩ := rBytes_isB hpg
 have HPB : Hid (IsB w1 x m (Tr.page s ((q : Int) + 1))) := hpB
 have HPc : Hid _ := hpc
 have HPn : Hid _ := hpn
 have HPm : Hid _ := hpm
 have hqz : (q : Int) < (s.length : Int) := by omega
 have hqy : ¬ (q : Int) + 1 > (s.length : Int) := by omega
 have hqx : ¬ (q : Int) + 1 < 1 := by omega
 have hlz : ¬ lv > 16 := by omega
 have hlz0 : 1 ≤ lv := by omega
 have HLv : Hid _ := hlv
 clear hA hW hVa hVb hFr hbs hLo hHi hb hmet hat hpg hml epg hpB hpc hpn hpm hq p1 p2 ho hk1 hz1 hlv
 clear hp0 hp1
 go_enter Tryz.func61, Tryz.ntmps61
 go_wp2_with fail
 refine (refDecode_u _ x m d (Tr.page s ((q : Int) + 1)) HPm.out HPc.out HPn.out HPB.out).mono ?_
 rintro e w2 ⟨v, u, rfl, hoI, hoK, b2⟩
 obtain ⟨ia, il, ic, rfl⟩ : ∃ a n c, v = .slice a n c := by obtain ⟨a, c, e, -⟩ := hoI.slice; exact ⟨a, _, c, e⟩
 obtain ⟨ka, kl, kc, rfl⟩ : ∃ a n c, u = .slice a n c := by obtain ⟨a, c, e, -⟩ := hoK.slice; exact ⟨a, _, c, e⟩
 obtain ⟨w3, hw3, V3, b3, z3⟩ := boxedRow w2 139 [.slice ia il ic, .slice ka kl kc]
 have b13 : Below w1.heap.size w1 w3 := on b2 b3
 have H3 : Hid _ := H1.out.below b13
 have R3 : Hid _ := V3
 have I3 : Hid (rItms.rd w3 (fun b => w1.heap.size ≤ b) [.slice ia il ic] (Tr.nod s ((q : Int) + 1)).1) := Rep.below (hoI.rd (by have := Lf.decodeN_len (Tr.page s ((q : Int) + 1)); show (Lf.decodeN _).1.length ≤ _; omega)) b3
 have K3 : Hid (rKids.rd w3 (fun b => w1.heap.size ≤ b) [.slice ka kl kc] (Tr.nod s ((q : Int) + 1)).2) := Rep.below (hoK.rd (by have := Lf.decodeN_len (Tr.page s ((q : Int) + 1)); show (Lf.decodeN _).2.length ≤ _; omega)) b3
 have Q3 : Hid (Quiet g gm oa on_ oc w w3) := ⟨b13.os.trans Q1.out.os, b13.tape.trans Q1.out.tape, b13.output.trans Q1.out.output, Nat.le_trans Q1.out.size b13.size, fun b hb => (b13.block b (by rw [HZ1.out]; exact hb.1)).trans (Q1.out.block b hb)⟩
 have HVa3 : Hid (IsBnd w3 (.slice xa na ca) lo) := HVa1.out.keep (fun r hr => b13.block r (HVa1.out.lt r hr))
 have HVb3 : Hid (IsBnd w3 (.slice xb nb cb) hi) := HVb1.out.keep (fun r hr => b13.block r (HVb1.out.lt r hr))
 have HZ3 : Hid (w.heap.size ≤ w2.heap.size) := by have := b2.size; rw [HZ1.out] at this; exact this
 have hgw : g < w.heap.size := H.out.row.lt
 have hg2 : g ≠ w2.heap.size := by have := HZ3.out; omega
 obtain ⟨E, hE⟩ : ∃ E, E = Lf.decodeE (Tr.page s ((q : Int) + 1)) := ⟨_, rfl⟩
 rw [← hE]
 have HE : Hid (E = Lf.decodeE (Tr.page s ((q : Int) + 1))) := hE
 obtain ⟨e0, e1, e2, e3, e4⟩ := H3.out.five
 have g4 := H3.out.row.frozen 4
 have HIl : Hid ((Tr.nod s ((q : Int) + 1)).1.length = il) := (rList_len I3.out).1
 have HKl : Hid ((Tr.nod s ((q : Int) + 1)).2.length = kl) := (rList_len K3.out).1
 have hil : il ≤ 3 := by rw [← HIl.out]; exact (Lf.decodeN_len _).1
 have hkl : kl ≤ 4 := by rw [← HKl.out]; exact (Lf.decodeN_len _).2
 have H4 : Hid (Walks (w3.setCell ⟨g, 4, none⟩ (.bool (E != 0))) g gm P (some ⟨pb, off, none⟩) pc oa on_ oc base s { k1 with bad := Tr.fault s ((q : Int) + 1) lo hi 0 }) := by
  rw [Tr.fault_zero, ← HE.out, show decide (E ≠ 0) = (E != 0) by cases h : (E != 0) <;> simp_all]
  exact H3.out.setBad A.out _
 clear hoI hoK b2 b3 b13 V3 z3 hE hw1 c0 c1 c2 c3 c4 cm fm d0 d1 d2 d3 d4 cp
 have BOX : Hid (∀ {wr : World}, Kept (· ≠ g) w3 wr → Row wr w2.heap.size 139 [.slice ia il ic, .slice ka kl kc]) := fun h => R3.out.keep (h.block _ (fun e => hg2 e.symm))
 have ITM : Hid (∀ {wr : World}, Kept (· ≠ g) w3 wr → rItms.rd wr (fun b => w1.heap.size ≤ b) [.slice ia il ic] (Tr.nod s ((q : Int) + 1)).1) := fun h => Rep.kept I3.out h (fun b hb _ => by have := HZ1.out; have := HS0.out; have := A.out.gb; omega)
 have BND : Hid (∀ {wr : World}, Kept (· ≠ g) w3 wr → IsBnd wr (.slice xa na ca) lo ∧ IsBnd wr (.slice xb nb cb) hi) := fun h => ⟨HVa3.out.keep (fun r hr => h.block r (HFr.out r (.inl hr)).1), HVb3.out.keep (fun r hr => h.block r (HFr.out r (.inr hr)).1)⟩
 have K4 : Hid (Kept (· ≠ g) w3 (w3.setCell ⟨g, 4, none⟩ (.bool (E != 0)))) := (Kept.refl _ w3).setCell (p := ⟨g, 4, none⟩) (fun h => h rfl) _
 go_wp2
 clear e0 e1 e2 e3 e4 g4 hw3
 go_loopw [12] (fun i wr => ∃ j : Nat, j ≤ il ∧ i = .int .i64 j ∧ Hid (Walks wr g gm P (some ⟨pb, off, none⟩) pc oa on_ oc base s { k1 with bad := Tr.fault s ((q : Int) + 1) lo hi j }) ∧ Hid (Kept (· ≠ g) w3 wr)) (fun i _ => il - (intOf i).toNat)
 case atStart => exact ⟨0, Nat.zero_le _, rfl, H4, K4⟩
 case round =>
  clear H4 K4
  obtain ⟨j, hj, rfl, HWr, HKr⟩ := hrel
  obtain ⟨e0, e1, e2, e3, e4⟩ := HWr.out.five
  have g4 := HWr.out.row.frozen 4
  obtain ⟨n0, n1⟩ := (BOX.out HKr.out).two
  by_cases hlt : j < il
  · have hjl : j < (Tr.nod s ((q : Int) + 1)).1.length := by rw [HIl.out]; exact hlt
    obtain ⟨g1, off1, rfl, -, -, hat⟩ := rItms_at (ITM.out HKr.out) (by omega)
    obtain ⟨i0, i1⟩ := hat j hjl
    have HNx : Hid _ := Tr.fault_succ lo hi hjl
    obtain ⟨Y, hY⟩ : ∃ Y, Y = (Tr.nod s ((q : Int) + 1)).1[j] := ⟨_, rfl⟩
    rw [← hY] at i0 i1 HNx
    clear hat hY
    have hjz : (j : Int) < (il : Int) := by omega
    have HBa : Hid _ := BND.out HKr.out
    cases hbj : Tr.fault s ((q : Int) + 1) lo hi j
    · rw [hbj] at e4
      rcases HLo.out with ⟨h2, rfl, rfl, rfl⟩ | ⟨a, qa, h2, rfl, rfl, rfl⟩
      · have hab : Tr.above lo Y.1 = true := by rw [h2]; rfl
        rcases HHi.out with ⟨h1, rfl, rfl, rfl⟩ | ⟨b, qb, h1, rfl, rfl, rfl⟩
        · have hun : Tr.under hi Y.1 = true := by rw [h1]; rfl
          have HN : Hid (Tr.fault s ((q : Int) + 1) lo hi (j + 1) = false) := by unfold Hid; rw [HNx.out, hbj]; show (false || !(Tr.above lo Y.1 && Tr.under hi Y.1)) = false; rw [hab, hun]; rfl
          have HW5 : Hid (Walks (wr.setCell ⟨g, 4, none⟩ (.bool false)) g gm P (some ⟨pb, off, none⟩) pc oa on_ oc base s { k1 with bad := Tr.fault s ((q : Int) + 1) lo hi (j + 1) }) := by rw [HN.out]; exact HWr.out.setBad A.out false
          have HK5 : Hid (Kept (· ≠ g) w3 (wr.setCell ⟨g, 4, none⟩ (.bool false))) := HKr.out.setCell (p := ⟨g, 4, none⟩) (fun h => h rfl) _
          clear HNx hbj
          go_wp2
          go_roundw
          case rel => exact ⟨j + 1, by omega, by go_num, HW5, HK5⟩
          case measure => simp [intOf]; omega
        · have hcb := (HBa.out.2 : IsBnd wr _ hi)
          rw [h1] at hcb
          have cb := hcb.cell
          clear hcb
          by_cases hge : b.toNat ≤ Y.1.toNat
          · have hun : Tr.under hi Y.1 = false := by rw [h1]; unfold Tr.under; simp; omega
            have hgz : (Y.1.toNat : Int) ≥ (b.toNat : Int) := by omega
            have HN : Hid (Tr.fault s ((q : Int) + 1) lo hi (j + 1) = true) := by unfold Hid; rw [HNx.out, hbj]; show (false || !(Tr.above lo Y.1 && Tr.under hi Y.1)) = true; rw [hab, hun]; rfl
            have HW5 : Hid (Walks (wr.setCell ⟨g, 4, none⟩ (.bool true)) g gm P (some ⟨pb, off, none⟩) pc oa on_ oc base s { k1 with bad := Tr.fault s ((q : Int) + 1) lo hi (j + 1) }) := by rw [HN.out]; exact HWr.out.setBad A.out true
            have HK5 : Hid (Kept (· ≠ g) w3 (wr.setCell ⟨g, 4, none⟩ (.bool true))) := HKr.out.setCell (p := ⟨g, 4, none⟩) (fun h => h rfl) _
            clear HNx hbj
            go_wp2
            go_roundw
            case rel => exact ⟨j + 1, by omega, by go_num, HW5, HK5⟩
            case measure => simp [intOf]; omega
          · have hun : Tr.under hi Y.1 = true := by rw [h1]; unfold Tr.under; simp; omega
            have hgz : ¬ (Y.1.toNat : Int) ≥ (b.toNat : Int) := by omega
            have HN : Hid (Tr.fault s ((q : Int) + 1) lo hi (j + 1) = false) := by unfold Hid; rw [HNx.out, hbj]; show (false || !(Tr.above lo Y.1 && Tr.under hi Y.1)) = false; rw [hab, hun]; rfl
            have HW5 : Hid (Walks (wr.setCell ⟨g, 4, none⟩ (.bool false)) g gm P (some ⟨pb, off, none⟩) pc oa on_ oc base s { k1 with bad := Tr.fault s ((q : Int) + 1) lo hi (j + 1) }) := by rw [HN.out]; exact HWr.out.setBad A.out false
            have HK5 : Hid (Kept (· ≠ g) w3 (wr.setCell ⟨g, 4, none⟩ (.bool false))) := HKr.out.setCell (p := ⟨g, 4, none⟩) (fun h => h rfl) _
            clear HNx hbj
            go_wp2
            go_roundw
            case rel => exact ⟨j + 1, by omega, by go_num, HW5, HK5⟩
            case measure => simp [intOf]; omega
      · have hca := (HBa.out.1 : IsBnd wr _ lo)
        rw [h2] at hca
        have ca := hca.cell
        clear hca
        by_cases hlow : Y.1.toNat < a.toNat
        · have hab : Tr.above lo Y.1 = false := by rw [h2]; unfold Tr.above; simp; omega
          have hlz2 : (Y.1.toNat : Int) < (a.toNat : Int) := by omega
          have HN : Hid (Tr.fault s ((q : Int) + 1) lo hi (j + 1) = true) := by unfold Hid; rw [HNx.out, hbj]; show (false || !(Tr.above lo Y.1 && Tr.under hi Y.1)) = true; rw [hab]; rfl
          have HW5 : Hid (Walks (wr.setCell ⟨g, 4, none⟩ (.bool true)) g gm P (some ⟨pb, off, none⟩) pc oa on_ oc base s { k1 with bad := Tr.fault s ((q : Int) + 1) lo hi (j + 1) }) := by rw [HN.out]; exact HWr.out.setBad A.out true
          have HK5 : Hid (Kept (· ≠ g) w3 (wr.setCell ⟨g, 4, none⟩ (.bool true))) := HKr.out.setCell (p := ⟨g, 4, none⟩) (fun h => h rfl) _
          clear HNx hbj
          go_wp2
          go_roundw
          case rel => exact ⟨j + 1, by omega, by go_num, HW5, HK5⟩
          case measure => simp [intOf]; omega
        · have hab : Tr.above lo Y.1 = true := by rw [h2]; unfold Tr.above; simp; omega
          have hlz2 : ¬ (Y.1.toNat : Int) < (a.toNat : Int) := by omega
          rcases HHi.out with ⟨h1, rfl, rfl, rfl⟩ | ⟨b, qb, h1, rfl, rfl, rfl⟩
          · have hun : Tr.under hi Y.1 = true := by rw [h1]; rfl
            have HN : Hid (Tr.fault s ((q : Int) + 1) lo hi (j + 1) = false) := by unfold Hid; rw [HNx.out, hbj]; show (false || !(Tr.above lo Y.1 && Tr.under hi Y.1)) = false; rw [hab, hun]; rfl
            have HW5 : Hid (Walks (wr.setCell ⟨g, 4, none⟩ (.bool false)) g gm P (some ⟨pb, off, none⟩) pc oa on_ oc base s { k1 with bad := Tr.fault s ((q : Int) + 1) lo hi (j + 1) }) := by rw [HN.out]; exact HWr.out.setBad A.out false
            have HK5 : Hid (Kept (· ≠ g) w3 (wr.setCell ⟨g, 4, none⟩ (.bool false))) := HKr.out.setCell (p := ⟨g, 4, none⟩) (fun h => h rfl) _
            clear HNx hbj
            go_wp2
            go_roundw
            case rel => exact ⟨j + 1, by omega, by go_num, HW5, HK5⟩
            case measure => simp [intOf]; omega
          · have hcb := (HBa.out.2 : IsBnd wr _ hi)
            rw [h1] at hcb
            have cb := hcb.cell
            clear hcb
            by_cases hge : b.toNat ≤ Y.1.toNat
            · have hun : Tr.under hi Y.1 = false := by rw [h1]; unfold Tr.under; simp; omega
              have hgz : (Y.1.toNat : Int) ≥ (b.toNat : Int) := by omega
              have HN : Hid (Tr.fault s ((q : Int) + 1) lo hi (j + 1) = true) := by unfold Hid; rw [HNx.out, hbj]; show (false || !(Tr.above lo Y.1 && Tr.under hi Y.1)) = true; rw [hab, hun]; rfl
              have HW5 : Hid (Walks (wr.setCell ⟨g, 4, none⟩ (.bool true)) g gm P (some ⟨pb, off, none⟩) pc oa on_ oc base s { k1 with bad := Tr.fault s ((q : Int) + 1) lo hi (j + 1) }) := by rw [HN.out]; exact HWr.out.setBad A.out true
              have HK5 : Hid (Kept (· ≠ g) w3 (wr.setCell ⟨g, 4, none⟩ (.bool true))) := HKr.out.setCell (p := ⟨g, 4, none⟩) (fun h => h rfl) _
              clear HNx hbj
              go_wp2
              go_roundw
              case rel => exact ⟨j + 1, by omega, by go_num, HW5, HK5⟩
              case measure => simp [intOf]; omega
            · have hun : Tr.under hi Y.1 = true := by rw [h1]; unfold Tr.under; simp; omega
              have hgz : ¬ (Y.1.toNat : Int) ≥ (b.toNat : Int) := by omega
              have HN : Hid (Tr.fault s ((q : Int) + 1) lo hi (j + 1) = false) := by unfold Hid; rw [HNx.out, hbj]; show (false || !(Tr.above lo Y.1 && Tr.under hi Y.1)) = false; rw [hab, hun]; rfl
              have HW5 : Hid (Walks (wr.setCell ⟨g, 4, none⟩ (.bool false)) g gm P (some ⟨pb, off, none⟩) pc oa on_ oc base s { k1 with bad := Tr.fault s ((q : Int) + 1) lo hi (j + 1) }) := by rw [HN.out]; exact HWr.out.setBad A.out false
              have HK5 : Hid (Kept (· ≠ g) w3 (wr.setCell ⟨g, 4, none⟩ (.bool false))) := HKr.out.setCell (p := ⟨g, 4, none⟩) (fun h => h rfl) _
              clear HNx hbj
              go_wp2
              go_roundw
              case rel => exact ⟨j + 1, by omega, by go_num, HW5, HK5⟩
              case measure => simp [intOf]; omega
    · rw [hbj] at e4
      have HN : Hid (Tr.fault s ((q : Int) + 1) lo hi (j + 1) = true) := by unfold Hid; rw [HNx.out, hbj]; rfl
      have HW5 : Hid (Walks (wr.setCell ⟨g, 4, none⟩ (.bool true)) g gm P (some ⟨pb, off, none⟩) pc oa on_ oc base s { k1 with bad := Tr.fault s ((q : Int) + 1) lo hi (j + 1) }) := by rw [HN.out]; exact HWr.out.setBad A.out true
      have HK5 : Hid (Kept (· ≠ g) w3 (wr.setCell ⟨g, 4, none⟩ (.bool true))) := HKr.out.setCell (p := ⟨g, 4, none⟩) (fun h => h rfl) _
      clear HNx hbj
      go_wp2
      go_roundw
      case rel => exact ⟨j + 1, by omega, by go_num, HW5, HK5⟩
      case measure => simp [intOf]; omega
  · obtain rfl : il = j := by omega
    have HFa : Hid (Tr.fault s ((q : Int) + 1) lo hi il = !Tr.good s ((q : Int) + 1) lo hi) := by have h := Tr.fault_all s ((q : Int) + 1) lo hi; rw [HIl.out] at h; exact h
    rw [HFa.out] at HWr e4
    rw [HG.out] at HWr e4
    have hok := (Tr.good_ok HG.out).1
    have HIK : Hid (kl = il + 1) := by
     have h := hok.kids.resolve_left (fun h => HKn.out (by unfold Lf.isLeaf at h; exact List.isEmpty_iff.1 h))
     rw [HIl.out, HKl.out] at h
     exact h
    have hil1 : 1 ≤ il := by have h := hok.some_; rw [HIl.out] at h; exact h
    have hk0 : ((kl : Int) == 0) = false := beq_eq_false_iff_ne.2 (by have := HIK.out; omega)
    clear hok
    obtain ⟨wz, hwz⟩ : ∃ wz, wz = wr := ⟨_, rfl⟩
    subst hwz
    have HB1 : Hid ({ k1 with bad := !true } = k1) := by
     have hb := (Tr.open_iff.1 HO.out).1
     unfold Hid
     rw [HK1.out]
     show ({ met := _, out := k.out, leaf := k.leaf, bad := false } : Tr.Wk) = _
     rw [← hb]
    rw [HB1.out] at HWr
    have HEq : Hid (Tr.node s (f + 1) ((q : Int) + 1) lo hi k = Tr.kidsOf s f (Tr.nod s ((q : Int) + 1)) lo hi kl k1) := by
     unfold Hid Tr.node
     rw [if_pos HO.out, HG.out, if_pos rfl, if_neg HKn.out, HK1.out, show ((q : Int) + 1).toNat - 1 = q by omega, ← HKl.out]
     rfl
    have QZ : Hid (Quiet g gm oa on_ oc w wz) := ⟨HKr.out.os.trans Q3.out.os, HKr.out.tape.trans Q3.out.tape, HKr.out.output.trans Q3.out.output, Nat.le_trans Q3.out.size HKr.out.size, fun b hb => (HKr.out.block b hb.2.1).trans (Q3.out.block b hb)⟩
    have RZ : Hid (Row wz w2.heap.size 139 [.slice ia il ic, .slice ka kl kc]) := BOX.out HKr.out
    have IZ : Hid (rItms.rd wz (fun b => w1.heap.size ≤ b) [.slice ia il ic] (Tr.nod s ((q : Int) + 1)).1) := ITM.out HKr.out
    have KZ : Hid (rKids.rd wz (fun b => w1.heap.size ≤ b) [.slice ka kl kc] (Tr.nod s ((q : Int) + 1)).2) := Rep.kept K3.out HKr.out (fun b hb _ => by have := HZ1.out; have := HS0.out; have := A.out.gb; omega)
    have VZ : Hid _ := BND.out HKr.out
    have HWZ : Hid (w.heap.size ≤ wz.heap.size) := QZ.out.size
    have HOL : Hid (∀ r, (Value.slice oa on_ oc).ownBlock = some r → r < w.heap.size) := fun r hr => (H.out.ownLt r hr).2
    have HGM : Hid (gm < w.heap.size) := H.out.met.lt
    have HS1 : Hid (∀ b, w1.heap.size ≤ b → b < wz.heap.size → b < wz.heap.size ∧ b ≠ g ∧ b ≠ gm ∧ (Value.slice oa on_ oc).ownBlock ≠ some b) := fun b h1 h2 => by
     have e1 := HZ1.out
     have e2 := HGM.out
     exact ⟨h2, by omega, by omega, fun e => by have := HOL.out b e; omega⟩
    have HS2 : Hid (w1.heap.size ≤ w2.heap.size) := by have e1 := HZ1.out; have e2 := HZ3.out; unfold Hid; omega
    go_wp2
    clear e0 e1 e2 e3 e4 g4 n0 n1
    go_loopw [14] (fun i wr => ∃ (j : Nat) (oa' : Option Addr) (on' oc' : Nat), j ≤ kl ∧ i = .int .i64 j ∧ Hid (Walks wr g gm P (some ⟨pb, off, none⟩) pc oa' on' oc' base s (Tr.kidsOf s f (Tr.nod s ((q : Int) + 1)) lo hi j k1)) ∧ Hid (Quiet g gm oa on_ oc wz wr) ∧ Hid (∀ r, (Value.slice oa' on' oc').ownBlock = some r → (Value.slice oa on_ oc).ownBlock = some r ∨ wz.heap.size ≤ r)) (fun i _ => kl - (intOf i).toNat)
    case atStart => exact ⟨0, oa, on_, oc, Nat.zero_le _, rfl, HWr, Kept.refl _ _, fun r hr => .inl hr⟩
    case round =>
     obtain ⟨j, oa', on', oc', hj, rfl, HWj, HQj, HPj⟩ := hrel
     have BOXR : Hid (Row wr w2.heap.size 139 [.slice ia il ic, .slice ka kl kc]) := RZ.out.keep (HQj.out.block _ (HS1.out _ HS2.out RZ.out.lt))
     have IR : Hid (rItms.rd wr (fun b => w1.heap.size ≤ b) [.slice ia il ic] (Tr.nod s ((q : Int) + 1)).1) := Rep.kept IZ.out HQj.out (fun b hb hl => HS1.out b hb hl)
     have KR : Hid (rKids.rd wr (fun b => w1.heap.size ≤ b) [.slice ka kl kc] (Tr.nod s ((q : Int) + 1)).2) := Rep.kept KZ.out HQj.out (fun b hb hl => HS1.out b hb hl)
     have VR : Hid (IsBnd wr (.slice xa na ca) lo ∧ IsBnd wr (.slice xb nb cb) hi) := ⟨VZ.out.1.keep (fun r hr => HQj.out.block r ⟨VZ.out.1.lt r hr, HFr.out r (.inl hr)⟩), VZ.out.2.keep (fun r hr => HQj.out.block r ⟨VZ.out.2.lt r hr, HFr.out r (.inr hr)⟩)⟩
     obtain ⟨n0, n1⟩ := BOXR.out.two
     by_cases hltk : j < kl
     · have hjk : j < (Tr.nod s ((q : Int) + 1)).2.length := by rw [HKl.out]; exact hltk
       obtain ⟨gk, offk, rfl, -, -, hak⟩ := rKids_at KR.out (by omega)
       obtain ⟨ck, kd1, kd2⟩ := hak j hjk
       have HKe : Hid ((Tr.nod s ((q : Int) + 1)).2.getD j 0 = (Tr.nod s ((q : Int) + 1)).2[j]) := Tr.getD_kid hjk
       obtain ⟨kd, hkd⟩ : ∃ kd, kd = (Tr.nod s ((q : Int) + 1)).2[j] := ⟨_, rfl⟩
       rw [← hkd] at ck kd1 kd2 HKe
       have HKd : Hid (-9223372036854775808 ≤ kd ∧ kd ≤ 9223372036854775807) := ⟨kd1, kd2⟩
       have HKD : Hid (kd = (Tr.nod s ((q : Int) + 1)).2[j]) := hkd
       clear hak hkd kd1 kd2
       have hjz : (j : Int) < (kl : Int) := by omega
       obtain ⟨gi, offi, rfl, -, -, hat⟩ := rItms_at IR.out (by omega)
       have hik : kl ≤ il + 1 := by have := HIK.out; omega
       by_cases hj0 : 0 < j
       · by_cases hji : j < il
         · obtain ⟨p0, -⟩ := hat (j - 1) (by rw [HIl.out]; omega)
           obtain ⟨Z, hZ⟩ : ∃ Z, Z = ((Tr.nod s ((q : Int) + 1)).1[j - 1]'(by rw [HIl.out]; omega)).1 := ⟨_, rfl⟩
           rw [← hZ] at p0
           have k1z : ((j : Int) - 1).toNat = j - 1 := by omega
           have k2z : (0 : Int) ≤ (j : Int) - 1 := by omega
           have k3z : (j : Int) - 1 < (il : Int) := by omega
           have hj0z : (j : Int) > 0 := by omega
           have hj0d : decide (0 < j) = true := decide_eq_true (by omega)
           obtain ⟨wa, hwa, Va, ba, za⟩ := boxedRow wr 39 [.int .u64 (Z.toNat : Int)]
           have HLOj : Hid (Tr.loOf (Tr.nod s ((q : Int) + 1)) lo j = some Z) := by unfold Hid Tr.loOf; rw [if_pos (by omega), List.getElem?_eq_getElem (show j - 1 < (Tr.nod s ((q : Int) + 1)).1.length by rw [HIl.out]; omega), hZ]; rfl
           have bX : Below wr.heap.size wr wa := ba
           have RA : Hid _ := Va
           clear hZ
           obtain ⟨n2, n3⟩ := (BOXR.out.below bX).two
           obtain ⟨ga, offa, eqa, -, -, hat2⟩ := rItms_at (Rep.below IR.out bX) (by omega)
           obtain ⟨rfl, rfl⟩ : gi = ga ∧ offi = offa := by simpa using eqa
           clear eqa
           obtain ⟨t0, -⟩ := hat2 j (by rw [HIl.out]; omega)
           obtain ⟨Y, hY⟩ : ∃ Y, Y = ((Tr.nod s ((q : Int) + 1)).1[j]'(by rw [HIl.out]; omega)).1 := ⟨_, rfl⟩
           rw [← hY] at t0
           have hjiz : (j : Int) < (il : Int) := by omega
           obtain ⟨wb, hwb, Vb, bb, zb⟩ := boxedRow wa 39 [.int .u64 (Y.toNat : Int)]
           have HHIj : Hid (Tr.hiOf (Tr.nod s ((q : Int) + 1)) hi j = some Y) := by unfold Hid Tr.hiOf; rw [if_pos (by rw [HIl.out]; omega), List.getElem?_eq_getElem (show j < (Tr.nod s ((q : Int) + 1)).1.length by rw [HIl.out]; omega), hY]; rfl
           have bX2 : Below wr.heap.size wr wb := on bX bb
           have RB : Hid _ := Vb
           clear hY
           have BA : Hid (IsBnd wb (.slice (some ⟨wr.heap.size, 0, none⟩) 1 1) (Tr.loOf (Tr.nod s ((q : Int) + 1)) lo j)) := by rw [HLOj.out]; exact ⟨_, rfl, RA.out.below bb⟩
           have BB : Hid (IsBnd wb (.slice (some ⟨wa.heap.size, 0, none⟩) 1 1) (Tr.hiOf (Tr.nod s ((q : Int) + 1)) hi j)) := by rw [HHIj.out]; exact ⟨_, rfl, RB.out⟩
           have WX : Hid _ := HWj.out.below bX2
           have hgl : g < wr.heap.size := HWj.out.row.lt
           have hml : gm < wr.heap.size := HWj.out.met.lt
           have FRX : Hid (∀ r, (Value.ownBlock (.slice (some ⟨wr.heap.size, 0, none⟩) 1 1)) = some r ∨ (Value.ownBlock (.slice (some ⟨wa.heap.size, 0, none⟩) 1 1)) = some r → r ≠ g ∧ r ≠ gm ∧ (Value.slice oa' on' oc').ownBlock ≠ some r) := fun r hr => by
            have hold : r < w.heap.size → (r ≠ g ∧ r ≠ gm ∧ (Value.slice oa on_ oc).ownBlock ≠ some r) → r ≠ g ∧ r ≠ gm ∧ (Value.slice oa' on' oc').ownBlock ≠ some r := fun h1 h2 => ⟨h2.1, h2.2.1, fun e => by
             rcases HPj.out r e with h | h
             · exact h2.2.2 h
             · have := HWZ.out; omega⟩
            have hnew : wr.heap.size ≤ r → r ≠ g ∧ r ≠ gm ∧ (Value.slice oa' on' oc').ownBlock ≠ some r := fun h => ⟨by omega, by omega, fun e => by have := (HWj.out.ownLt r e).2; omega⟩
            rcases hr with hr | hr
            · simp only [Value.ownBlock, Option.some.injEq] at hr; exact hnew (by omega)
            · simp only [Value.ownBlock, Option.some.injEq] at hr; exact hnew (by have := ba.size; omega)
           have hszX : base ≤ wb.heap.size := Nat.le_trans HS0.out (Nat.le_trans HWZ.out (Nat.le_trans HQj.out.size bX2.size))
           have HSX : Hid _ := hszX
           have BX2 : Hid _ := bX2
           have hlv1 : lv + 1 = 17 - (f : Int) := by have := HLv.out; omega
           have HL1 : Hid _ := hlv1
           obtain ⟨n6, n7⟩ := (BOXR.out.below bX2).two
           obtain ⟨gz, offz, eqz, -, -, hak2⟩ := rKids_at (Rep.below KR.out bX2) (by omega)
           obtain ⟨rfl, rfl⟩ : gk = gz ∧ offk = offz := by simpa using eqz
           obtain ⟨ck2, -, -⟩ := hak2 j hjk
           rw [← HKD.out] at ck2
           clear eqz hak2
           clear bX bX2 hszX hlv1 hat hat2 hgl hml hik Va ba za Vb bb zb
           go_wp2_with fail
           refine (IH.out wb B g gm P (some ⟨pb, off, none⟩) pc oa' on' oc' base (Tr.kidsOf s f (Tr.nod s ((q : Int) + 1)) lo hi j k1) kd (lv + 1) _ _ _ _ HL1.out A.out WX.out BA.out BB.out FRX.out HSX.out HKd.out.1 HKd.out.2).mono ?_
           rintro e w5 hd
           obtain ⟨oa2, on2, oc2, rfl, hW5, hQ5, hP5⟩ := hd
           have HW5 : Hid (Walks w5 g gm P (some ⟨pb, off, none⟩) pc oa2 on2 oc2 base s (Tr.kidsOf s f (Tr.nod s ((q : Int) + 1)) lo hi (j + 1) k1)) := by
            unfold Hid
            rw [Tr.kidsOf_succ, HKe.out]
            exact hW5
           have HQ5 : Hid (Quiet g gm oa on_ oc wz w5) := ⟨hQ5.os.trans (BX2.out.os.trans HQj.out.os), hQ5.tape.trans (BX2.out.tape.trans HQj.out.tape), hQ5.output.trans (BX2.out.output.trans HQj.out.output), Nat.le_trans HQj.out.size (Nat.le_trans BX2.out.size hQ5.size), fun b hb => (hQ5.block b ⟨Nat.lt_of_lt_of_le hb.1 (Nat.le_trans HQj.out.size BX2.out.size), hb.2.1, hb.2.2.1, fun e => (HPj.out b e).elim hb.2.2.2 (fun h => by have := hb.1; omega)⟩).trans ((BX2.out.block b (Nat.lt_of_lt_of_le hb.1 HQj.out.size)).trans (HQj.out.block b hb))⟩
           have HP5 : Hid (∀ r, (Value.slice oa2 on2 oc2).ownBlock = some r → (Value.slice oa on_ oc).ownBlock = some r ∨ wz.heap.size ≤ r) := fun r hr => (hP5 r hr).elim (HPj.out r) (fun h => .inr (Nat.le_trans HQj.out.size (Nat.le_trans BX2.out.size h)))
           clear hW5 hQ5 hP5
           go_wp2
           go_roundw
           case rel => exact ⟨j + 1, oa2, on2, oc2, by omega, by go_num, HW5, HQ5, HP5⟩
           case measure => simp [intOf]; omega
         · obtain ⟨p0, -⟩ := hat (j - 1) (by rw [HIl.out]; omega)
           obtain ⟨Z, hZ⟩ : ∃ Z, Z = ((Tr.nod s ((q : Int) + 1)).1[j - 1]'(by rw [HIl.out]; omega)).1 := ⟨_, rfl⟩
           rw [← hZ] at p0
           have k1z : ((j : Int) - 1).toNat = j - 1 := by omega
           have k2z : (0 : Int) ≤ (j : Int) - 1 := by omega
           have k3z : (j : Int) - 1 < (il : Int) := by omega
           have hj0z : (j : Int) > 0 := by omega
           have hj0d : decide (0 < j) = true := decide_eq_true (by omega)
           obtain ⟨wa, hwa, Va, ba, za⟩ := boxedRow wr 39 [.int .u64 (Z.toNat : Int)]
           have HLOj : Hid (Tr.loOf (Tr.nod s ((q : Int) + 1)) lo j = some Z) := by unfold Hid Tr.loOf; rw [if_pos (by omega), List.getElem?_eq_getElem (show j - 1 < (Tr.nod s ((q : Int) + 1)).1.length by rw [HIl.out]; omega), hZ]; rfl
           have bX : Below wr.heap.size wr wa := ba
           have RA : Hid _ := Va
           clear hZ
           obtain ⟨n2, n3⟩ := (BOXR.out.below bX).two
           obtain ⟨ga, offa, eqa, -, -, hat2⟩ := rItms_at (Rep.below IR.out bX) (by omega)
           obtain ⟨rfl, rfl⟩ : gi = ga ∧ offi = offa := by simpa using eqa
           clear eqa
           have hjiz : ¬ (j : Int) < (il : Int) := by omega
           have HHIj : Hid (Tr.hiOf (Tr.nod s ((q : Int) + 1)) hi j = hi) := by unfold Hid Tr.hiOf; rw [if_neg (by rw [HIl.out]; omega)]
           have bX2 : Below wr.heap.size wr wa := bX
           have BA : Hid (IsBnd wa (.slice (some ⟨wr.heap.size, 0, none⟩) 1 1) (Tr.loOf (Tr.nod s ((q : Int) + 1)) lo j)) := by rw [HLOj.out]; exact ⟨_, rfl, RA.out⟩
           have BB : Hid (IsBnd wa (.slice xb nb cb) (Tr.hiOf (Tr.nod s ((q : Int) + 1)) hi j)) := by rw [HHIj.out]; exact VR.out.2.keep (fun r hr => bX2.block r (VR.out.2.lt r hr))
           have WX : Hid _ := HWj.out.below bX2
           have hgl : g < wr.heap.size := HWj.out.row.lt
           have hml : gm < wr.heap.size := HWj.out.met.lt
           have FRX : Hid (∀ r, (Value.ownBlock (.slice (some ⟨wr.heap.size, 0, none⟩) 1 1)) = some r ∨ (Value.ownBlock (.slice xb nb cb)) = some r → r ≠ g ∧ r ≠ gm ∧ (Value.slice oa' on' oc').ownBlock ≠ some r) := fun r hr => by
            have hold : r < w.heap.size → (r ≠ g ∧ r ≠ gm ∧ (Value.slice oa on_ oc).ownBlock ≠ some r) → r ≠ g ∧ r ≠ gm ∧ (Value.slice oa' on' oc').ownBlock ≠ some r := fun h1 h2 => ⟨h2.1, h2.2.1, fun e => by
             rcases HPj.out r e with h | h
             · exact h2.2.2 h
             · have := HWZ.out; omega⟩
            have hnew : wr.heap.size ≤ r → r ≠ g ∧ r ≠ gm ∧ (Value.slice oa' on' oc').ownBlock ≠ some r := fun h => ⟨by omega, by omega, fun e => by have := (HWj.out.ownLt r e).2; omega⟩
            rcases hr with hr | hr
            · simp only [Value.ownBlock, Option.some.injEq] at hr; exact hnew (by omega)
            · exact hold (HLa.out r (.inr hr)) (HFr.out r (.inr hr))
           have hszX : base ≤ wa.heap.size := Nat.le_trans HS0.out (Nat.le_trans HWZ.out (Nat.le_trans HQj.out.size bX2.size))
           have HSX : Hid _ := hszX
           have BX2 : Hid _ := bX2
           have hlv1 : lv + 1 = 17 - (f : Int) := by have := HLv.out; omega
           have HL1 : Hid _ := hlv1
           obtain ⟨n6, n7⟩ := (BOXR.out.below bX2).two
           obtain ⟨gz, offz, eqz, -, -, hak2⟩ := rKids_at (Rep.below KR.out bX2) (by omega)
           obtain ⟨rfl, rfl⟩ : gk = gz ∧ offk = offz := by simpa using eqz
           obtain ⟨ck2, -, -⟩ := hak2 j hjk
           rw [← HKD.out] at ck2
           clear eqz hak2
           clear bX bX2 hszX hlv1 hat hat2 hgl hml hik Va ba za
           go_wp2_with fail
           refine (IH.out wa B g gm P (some ⟨pb, off, none⟩) pc oa' on' oc' base (Tr.kidsOf s f (Tr.nod s ((q : Int) + 1)) lo hi j k1) kd (lv + 1) _ _ _ _ HL1.out A.out WX.out BA.out BB.out FRX.out HSX.out HKd.out.1 HKd.out.2).mono ?_
           rintro e w5 hd
           obtain ⟨oa2, on2, oc2, rfl, hW5, hQ5, hP5⟩ := hd
           have HW5 : Hid (Walks w5 g gm P (some ⟨pb, off, none⟩) pc oa2 on2 oc2 base s (Tr.kidsOf s f (Tr.nod s ((q : Int) + 1)) lo hi (j + 1) k1)) := by
            unfold Hid
            rw [Tr.kidsOf_succ, HKe.out]
            exact hW5
           have HQ5 : Hid (Quiet g gm oa on_ oc wz w5) := ⟨hQ5.os.trans (BX2.out.os.trans HQj.out.os), hQ5.tape.trans (BX2.out.tape.trans HQj.out.tape), hQ5.output.trans (BX2.out.output.trans HQj.out.output), Nat.le_trans HQj.out.size (Nat.le_trans BX2.out.size hQ5.size), fun b hb => (hQ5.block b ⟨Nat.lt_of_lt_of_le hb.1 (Nat.le_trans HQj.out.size BX2.out.size), hb.2.1, hb.2.2.1, fun e => (HPj.out b e).elim hb.2.2.2 (fun h => by have := hb.1; omega)⟩).trans ((BX2.out.block b (Nat.lt_of_lt_of_le hb.1 HQj.out.size)).trans (HQj.out.block b hb))⟩
           have HP5 : Hid (∀ r, (Value.slice oa2 on2 oc2).ownBlock = some r → (Value.slice oa on_ oc).ownBlock = some r ∨ wz.heap.size ≤ r) := fun r hr => (hP5 r hr).elim (HPj.out r) (fun h => .inr (Nat.le_trans HQj.out.size (Nat.le_trans BX2.out.size h)))
           clear hW5 hQ5 hP5
           go_wp2
           go_roundw
           case rel => exact ⟨j + 1, oa2, on2, oc2, by omega, by go_num, HW5, HQ5, HP5⟩
           case measure => simp [intOf]; omega
       · by_cases hji : j < il
         · have hj0z : ¬ (j : Int) > 0 := by omega
           have hj0d : decide (0 < j) = false := decide_eq_false (by omega)
           have HLOj : Hid (Tr.loOf (Tr.nod s ((q : Int) + 1)) lo j = lo) := by unfold Hid Tr.loOf; rw [if_neg (by omega)]
           have bX : Below wr.heap.size wr wr := Below.refl _ _
           have hat2 := hat
           obtain ⟨t0, -⟩ := hat2 j (by rw [HIl.out]; omega)
           obtain ⟨Y, hY⟩ : ∃ Y, Y = ((Tr.nod s ((q : Int) + 1)).1[j]'(by rw [HIl.out]; omega)).1 := ⟨_, rfl⟩
           rw [← hY] at t0
           have hjiz : (j : Int) < (il : Int) := by omega
           obtain ⟨wb, hwb, Vb, bb, zb⟩ := boxedRow wr 39 [.int .u64 (Y.toNat : Int)]
           have HHIj : Hid (Tr.hiOf (Tr.nod s ((q : Int) + 1)) hi j = some Y) := by unfold Hid Tr.hiOf; rw [if_pos (by rw [HIl.out]; omega), List.getElem?_eq_getElem (show j < (Tr.nod s ((q : Int) + 1)).1.length by rw [HIl.out]; omega), hY]; rfl
           have bX2 : Below wr.heap.size wr wb := on bX bb
           have RB : Hid _ := Vb
           clear hY
           have BA : Hid (IsBnd wb (.slice xa na ca) (Tr.loOf (Tr.nod s ((q : Int) + 1)) lo j)) := by rw [HLOj.out]; exact VR.out.1.keep (fun r hr => bX2.block r (VR.out.1.lt r hr))
           have BB : Hid (IsBnd wb (.slice (some ⟨wr.heap.size, 0, none⟩) 1 1) (Tr.hiOf (Tr.nod s ((q : Int) + 1)) hi j)) := by rw [HHIj.out]; exact ⟨_, rfl, RB.out⟩
           have WX : Hid _ := HWj.out.below bX2
           have hgl : g < wr.heap.size := HWj.out.row.lt
           have hml : gm < wr.heap.size := HWj.out.met.lt
           have FRX : Hid (∀ r, (Value.ownBlock (.slice xa na ca)) = some r ∨ (Value.ownBlock (.slice (some ⟨wr.heap.size, 0, none⟩) 1 1)) = some r → r ≠ g ∧ r ≠ gm ∧ (Value.slice oa' on' oc').ownBlock ≠ some r) := fun r hr => by
            have hold : r < w.heap.size → (r ≠ g ∧ r ≠ gm ∧ (Value.slice oa on_ oc).ownBlock ≠ some r) → r ≠ g ∧ r ≠ gm ∧ (Value.slice oa' on' oc').ownBlock ≠ some r := fun h1 h2 => ⟨h2.1, h2.2.1, fun e => by
             rcases HPj.out r e with h | h
             · exact h2.2.2 h
             · have := HWZ.out; omega⟩
            have hnew : wr.heap.size ≤ r → r ≠ g ∧ r ≠ gm ∧ (Value.slice oa' on' oc').ownBlock ≠ some r := fun h => ⟨by omega, by omega, fun e => by have := (HWj.out.ownLt r e).2; omega⟩
            rcases hr with hr | hr
            · exact hold (HLa.out r (.inl hr)) (HFr.out r (.inl hr))
            · simp only [Value.ownBlock, Option.some.injEq] at hr; exact hnew (by omega)
           have hszX : base ≤ wb.heap.size := Nat.le_trans HS0.out (Nat.le_trans HWZ.out (Nat.le_trans HQj.out.size bX2.size))
           have HSX : Hid _ := hszX
           have BX2 : Hid _ := bX2
           have hlv1 : lv + 1 = 17 - (f : Int) := by have := HLv.out; omega
           have HL1 : Hid _ := hlv1
           obtain ⟨n6, n7⟩ := (BOXR.out.below bX2).two
           obtain ⟨gz, offz, eqz, -, -, hak2⟩ := rKids_at (Rep.below KR.out bX2) (by omega)
           obtain ⟨rfl, rfl⟩ : gk = gz ∧ offk = offz := by simpa using eqz
           obtain ⟨ck2, -, -⟩ := hak2 j hjk
           rw [← HKD.out] at ck2
           clear eqz hak2
           clear bX bX2 hszX hlv1 hat hat2 hgl hml hik Vb bb zb
           go_wp2_with fail
           refine (IH.out wb B g gm P (some ⟨pb, off, none⟩) pc oa' on' oc' base (Tr.kidsOf s f (Tr.nod s ((q : Int) + 1)) lo hi j k1) kd (lv + 1) _ _ _ _ HL1.out A.out WX.out BA.out BB.out FRX.out HSX.out HKd.out.1 HKd.out.2).mono ?_
           rintro e w5 hd
           obtain ⟨oa2, on2, oc2, rfl, hW5, hQ5, hP5⟩ := hd
           have HW5 : Hid (Walks w5 g gm P (some ⟨pb, off, none⟩) pc oa2 on2 oc2 base s (Tr.kidsOf s f (Tr.nod s ((q : Int) + 1)) lo hi (j + 1) k1)) := by
            unfold Hid
            rw [Tr.kidsOf_succ, HKe.out]
            exact hW5
           have HQ5 : Hid (Quiet g gm oa on_ oc wz w5) := ⟨hQ5.os.trans (BX2.out.os.trans HQj.out.os), hQ5.tape.trans (BX2.out.tape.trans HQj.out.tape), hQ5.output.trans (BX2.out.output.trans HQj.out.output), Nat.le_trans HQj.out.size (Nat.le_trans BX2.out.size hQ5.size), fun b hb => (hQ5.block b ⟨Nat.lt_of_lt_of_le hb.1 (Nat.le_trans HQj.out.size BX2.out.size), hb.2.1, hb.2.2.1, fun e => (HPj.out b e).elim hb.2.2.2 (fun h => by have := hb.1; omega)⟩).trans ((BX2.out.block b (Nat.lt_of_lt_of_le hb.1 HQj.out.size)).trans (HQj.out.block b hb))⟩
           have HP5 : Hid (∀ r, (Value.slice oa2 on2 oc2).ownBlock = some r → (Value.slice oa on_ oc).ownBlock = some r ∨ wz.heap.size ≤ r) := fun r hr => (hP5 r hr).elim (HPj.out r) (fun h => .inr (Nat.le_trans HQj.out.size (Nat.le_trans BX2.out.size h)))
           clear hW5 hQ5 hP5
           go_wp2
           go_roundw
           case rel => exact ⟨j + 1, oa2, on2, oc2, by omega, by go_num, HW5, HQ5, HP5⟩
           case measure => simp [intOf]; omega
         · exfalso; omega
     · obtain rfl : kl = j := by omega
       go_wp2
       go_end0
       exact NodeDone.of ⟨oa', on', oc', rfl, by rw [HEq.out]; exact HWj.out, ⟨HQj.out.os.trans QZ.out.os, HQj.out.tape.trans QZ.out.tape, HQj.out.output.trans QZ.out.output, Nat.le_trans QZ.out.size HQj.out.size, fun b hb => (HQj.out.block b ⟨Nat.lt_of_lt_of_le hb.1 QZ.out.size, hb.2⟩).trans (QZ.out.block b hb)⟩, fun r hr => (HPj.out r hr).imp id (fun h => Nat.le_trans HWZ.out h)⟩
theorem node_u (s : Pgs) (hs : s.length ≤ 2048) : ∀ f, f ≤ 16 → NodeSaid s f
 | 0, _ => node_zero s hs
 | f + 1, hf => by
   intro w B g gm P pa pc oa on_ oc base k p lv lo hi va vb hlv hA hW hVa hVb hFr hbs hp0 hp1
   cases ho : Tr.open_ s p k
   · exact node_shut s hs f (by omega) w B g gm P pa pc oa on_ oc base k p lv lo hi va vb hlv hA hW hp0 hp1 ho
   · cases hg : Tr.good s p lo hi
     · exact node_faulty s hs f (by omega) w B g gm P pa pc oa on_ oc base k p lv lo hi va vb hlv hA hW hVa hVb hFr hbs hp0 hp1 ho hg
     · by_cases hk : (Tr.nod s p).2 = []
       · exact node_leaf s hs f (by omega) w B g gm P pa pc oa on_ oc base k p lv lo hi va vb hlv hA hW hVa hVb hFr hbs hp0 hp1 ho hg hk
       · exact node_kids s hs f (by omega) (node_u s hs f (by omega)) w B g gm P pa pc oa on_ oc base k p lv lo hi va vb hlv hA hW hVa hVb hFr hbs hp0 hp1 ho hg hk
end Go.Proofs.YtkbmadoaomoojaaGreat
