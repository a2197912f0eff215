/-
  Facts that the proof rests on, part 15. Conditions: those that each of them names.
-/
import Derived.Test.YtkbmadoaomoojaaGreatK05
import Derived.Test.YtkbmadoaomoojaaGreatK09
import Derived.Test.YtkbmadoaomoojaaGreatK13
namespace Go.Proofs.YtkbmadoaomoojaaGreat
set_option maxRecDepth 20000
open Go.RowKit
set_option linter.unusedVariables false
theorem Lf.decodeN_len (b : List UInt8) : (Lf.decodeN b).1.length ≤ 3 ∧ (Lf.decodeN b).2.length ≤ 4 := by
 by_cases h : Lf.decodeE b = 0
 · have h1 := Lf.ok_iff.1 (Lf.enc_decode h).1
   have h2 := h1.few
   have h3 := h1.kids
   refine ⟨h2, ?_⟩
   rcases h3 with h3 | h3
   · rw [Lf.leaf_iff] at h3; omega
   · omega
 · rw [show Lf.decodeN b = ([], []) from if_neg h]
   simp
theorem Walks.setMet {w : World} {B g gm : Nat} {P : Nat → Prop} {pa oa : Option Addr} {pc on_ oc base : Nat} {s : Pgs} {k : Tr.Wk} (h : Walks w g gm P pa pc oa on_ oc base s k) (a : Apart P B g gm base) (q : Nat) (hq : q < s.length) (hm : k.met.getD q false = false) :
 Walks (w.setCell ⟨gm, q, none⟩ (.bool true)) g gm P pa pc oa on_ oc base s { k with met := k.met.set q true } := by
 have hn := metN_set k.met q (by rw [h.len]; exact hq) hm
 refine ⟨h.row.setO (p := ⟨gm, q, none⟩) (fun e => a.ne e.symm) _, rSectors.keep h.pages (fun b hb hl => Below.heap_setCell _ _ _ _ (by have := a.pages b hb; have := a.atM; show b ≠ gm; omega)), ?_, ?_, h.out.setB (p := ⟨gm, q, none⟩) a.gmb _, ?_⟩
 · have := h.met.set q (.bool true)
   rw [show (boolCells k.met).set q (.bool true) = boolCells (k.met.set q true) by simp [boolCells, List.map_set]] at this
   exact this
 · simp only [List.length_set]; exact h.len
 · simp only; have := h.few; omega
namespace Tr
def fault (s : Pgs) (p : Int) (lo hi : Bnd) (j : Nat) : Bool := decide (Lf.decodeE (page s p) ≠ 0) || ((nod s p).1.take j).any fun x => !(above lo x.1 && under hi x.1)
theorem fault_zero (s : Pgs) (p : Int) (lo hi : Bnd) : fault s p lo hi 0 = decide (Lf.decodeE (page s p) ≠ 0) := by unfold fault; simp
theorem fault_succ {s : Pgs} {p : Int} (lo hi : Bnd) {j : Nat} (h : j < (nod s p).1.length) : fault s p lo hi (j + 1) = (fault s p lo hi j || !(above lo (nod s p).1[j].1 && under hi (nod s p).1[j].1)) := by
 unfold fault
 rw [List.take_succ_eq_append_getElem h, List.any_append, List.any_cons, List.any_nil, Bool.or_false, Bool.or_assoc]
theorem fault_all (s : Pgs) (p : Int) (lo hi : Bnd) : fault s p lo hi (nod s p).1.length = !good s p lo hi := by
 unfold fault good within
 rw [List.take_length, Bool.not_and, List.all_eq_not_any_not, Bool.not_not]
 congr 1
 simp
end Tr
theorem IsBnd.parts {w : World} {v : Value} {b : Bnd} (h : IsBnd w v b) : ∃ xa na ca, v = .slice xa na ca ∧ (b = none ∧ na = 0 ∧ ca = 0 ∧ xa = none ∨ ∃ a q, b = some a ∧ na = 1 ∧ ca = 1 ∧ xa = some ⟨q, 0, none⟩) := by
 cases b with
 | none => exact ⟨none, 0, 0, h, .inl ⟨rfl, rfl, rfl, rfl⟩⟩
 | some a => obtain ⟨q, rfl, -⟩ := h; exact ⟨_, 1, 1, rfl, .inr ⟨a, q, rfl, rfl, rfl, rfl⟩⟩
theorem IsBnd.cell {w : World} {q : Nat} {a : UInt64} (h : IsBnd w (.slice (some ⟨q, 0, none⟩) 1 1) (some a)) : w.cell? ⟨q, 0, none⟩ = some (.int .u64 (a.toNat : Int)) := by
 obtain ⟨q', e, hr⟩ := h
 simp only [Value.slice.injEq, Option.some.injEq, Addr.mk.injEq, and_true] at e
 subst e
 exact hr.cell rfl
set_option maxRecDepth 20000 in
set_option maxHeartbeats 8000000 in
theorem node_faulty (s : Pgs) (hs : s.length ≤ 2048) (f : Nat) (hf : f < 16) (w : World) (B g gm : Nat) (P : Nat → Prop) (pa : Option Addr) (pc : Nat) (oa : Option Addr) (on_ oc base : Nat) (k : Tr.Wk) (p : Int) (lv : Int) (lo hi : Bnd) (va vb : Value)
 (hlv : lv = 17 - ((f + 1 : Nat) : Int)) (hA : Apart P B g gm base) (hW : Walks w g gm P pa pc oa on_ oc base s k) (hVa : IsBnd w va lo) (hVb : IsBnd w vb hi) (hFr : ∀ q, va.ownBlock = some q ∨ vb.ownBlock = some q → q ≠ g ∧ q ≠ gm ∧ (Value.slice oa on_ oc).ownBlock ≠ some q) (hbs : base ≤ w.heap.size) (hp0 : -9223372036854775808 ≤ p) (hp1 : p ≤ 9223372036854775807) (ho : Tr.open_ s p k = true) (hg : Tr.good s p lo hi = false):
 Calls Tryz.prog 61 #[.pointer (some ⟨g, 0, none⟩), .int .i64 p, .int .i64 lv, va, vb] w fun e w' => NodeDone s (f + 1) g gm P pa pc oa on_ oc base k p lo hi w e w' := by
 have HG0 : Hid _ := hg
 clear hg
 obtain ⟨hb, p1, p2, hmet⟩ := Tr.open_iff.1 ho
 obtain ⟨q, hq⟩ := Int.eq_ofNat_of_zero_le (show 0 ≤ p - 1 by omega)
 obtain rfl : p = (q : Int) + 1 := by omega
 have HG : Hid (Tr.good s ((q : Int) + 1) lo hi = false) := HG0.out
 have hql : q < s.length := by omega
 have hlen : s.length ≤ 2048 := hs
 rw [show ((q : Int) + 1).toNat - 1 = q by omega] at hmet
 have A : Hid _ := hA
 have HO : Hid _ := ho
 have HS0 : Hid (base ≤ w.heap.size) := hbs
 obtain ⟨xa, na, ca, rfl, hLo⟩ := hVa.parts
 obtain ⟨xb, nb, cb, rfl, hHi⟩ := hVb.parts
 have HLo : Hid _ := hLo
 have HHi : Hid _ := hHi
 have HFr : Hid _ := hFr
 have H : Hid _ := hW
 obtain ⟨c0, c1, c2, c3, c4⟩ := hW.five
 rw [hb] at c4
 have cm : w.cell? ⟨gm, q, none⟩ = some (.bool false) := by
  refine hW.met.cell ?_
  have hq' : q < k.met.length := by rw [hW.len]; exact hql
  rw [← hmet]
  simp [boolCells, List.getD, List.getElem?_eq_getElem hq']
 have fm := hW.met.frozen q
 obtain ⟨w1, hw1⟩ : ∃ w1, w.setCell ⟨gm, q, none⟩ (.bool true) = w1 := ⟨_, rfl⟩
 obtain ⟨k1, hk1⟩ : ∃ k1 : Tr.Wk, k1 = { k with met := k.met.set q true } := ⟨_, rfl⟩
 have HK1 : Hid _ := hk1
 have H1 : Hid (Walks w1 g gm P pa pc oa on_ oc base s k1) := by rw [← hw1, hk1]; exact hW.setMet hA q hql hmet
 have Q1 : Hid (Quiet g gm oa on_ oc w w1) := by rw [← hw1]; exact (Kept.refl _ w).setCell (p := ⟨gm, q, none⟩) (fun h => h.2.2.1 rfl) _
 have hz1 : w1.heap.size = w.heap.size := by rw [← hw1]; simp [World.setCell]
 have HZ1 : Hid _ := hz1
 have HVa1 : Hid (IsBnd w1 (.slice xa na ca) lo) := hVa.keep (fun r hr => by rw [← hw1]; exact Below.heap_setCell _ _ _ _ (fun e => (hFr r (.inl hr)).2.1 e))
 have HVb1 : Hid (IsBnd w1 (.slice xb nb cb) hi) := hVb.keep (fun r hr => by rw [← hw1]; exact Below.heap_setCell _ _ _ _ (fun e => (hFr r (.inr hr)).2.1 e))
 obtain ⟨d0, d1, d2, d3, d4⟩ := H1.out.five
 obtain ⟨pb, off, rfl, -, -, hat⟩ := rLists_at H1.out.pages (by omega)
 obtain ⟨x, m, d, hpg, hml, cp⟩ := hat q hql
 have epg : s[q] = Tr.page s ((q : Int) + 1) := by unfold Tr.page; rw [show ((q : Int) + 1).toNat - 1 = q by omega]; simp [List.getD, List.getElem?_eq_getElem hql]
 rw [epg] at hpg
 obtain ⟨hpB, hpc, hpn, hpm⟩ := rBytes_isB hpg
 have HPB : Hid (IsB w1 x m (Tr.page s ((q : Int) + 1))) := hpB
 have HPc : Hid _ := hpc
 have HPn : Hid _ := hpn
 have HPm : Hid _ := hpm
 have hqz : (q : Int) < (s.length : Int) := by omega
 have hqy : ¬ (q : Int) + 1 > (s.length : Int) := by omega
 have hqx : ¬ (q : Int) + 1 < 1 := by omega
 have hlz : ¬ lv > 16 := by omega
 have hlz0 : 1 ≤ lv := by omega
 have HLv : Hid _ := hlv
 clear hA hW hVa hVb hFr hbs hLo hHi hb hmet hat hpg hml epg hpB hpc hpn hpm hq p1 p2 ho hk1 hz1 hlv
 go_enter Tryz.func61, Tryz.ntmps61
 go_wp2_with fail
 refine (refDecode_u _ x m d (Tr.page s ((q : Int) + 1)) HPm.out HPc.out HPn.out HPB.out).mono ?_
 rintro e w2 ⟨v, u, rfl, hoI, hoK, b2⟩
 obtain ⟨ia, il, ic, rfl⟩ : ∃ a n c, v = .slice a n c := by obtain ⟨a, c, e, -⟩ := hoI.slice; exact ⟨a, _, c, e⟩
 obtain ⟨ka, kl, kc, rfl⟩ : ∃ a n c, u = .slice a n c := by obtain ⟨a, c, e, -⟩ := hoK.slice; exact ⟨a, _, c, e⟩
 obtain ⟨w3, hw3, V3, b3, z3⟩ := boxedRow w2 139 [.slice ia il ic, .slice ka kl kc]
 have b13 : Below w1.heap.size w1 w3 := on b2 b3
 have H3 : Hid _ := H1.out.below b13
 have R3 : Hid _ := V3
 have I3 : Hid (rItms.rd w3 (fun b => w1.heap.size ≤ b) [.slice ia il ic] (Tr.nod s ((q : Int) + 1)).1) := Rep.below (hoI.rd (by have := Lf.decodeN_len (Tr.page s ((q : Int) + 1)); show (Lf.decodeN _).1.length ≤ _; omega)) b3
 have K3 : Hid (rKids.rd w3 (fun b => w1.heap.size ≤ b) [.slice ka kl kc] (Tr.nod s ((q : Int) + 1)).2) := Rep.below (hoK.rd (by have := Lf.decodeN_len (Tr.page s ((q : Int) + 1)); show (Lf.decodeN _).2.length ≤ _; omega)) b3
 have Q3 : Hid (Quiet g gm oa on_ oc w w3) := ⟨b13.os.trans Q1.out.os, b13.tape.trans Q1.out.tape, b13.output.trans Q1.out.output, Nat.le_trans Q1.out.size b13.size, fun b hb => (b13.block b (by rw [HZ1.out]; exact hb.1)).trans (Q1.out.block b hb)⟩
 have HVa3 : Hid (IsBnd w3 (.slice xa na ca) lo) := HVa1.out.keep (fun r hr => b13.block r (HVa1.out.lt r hr))
 have HVb3 : Hid (IsBnd w3 (.slice xb nb cb) hi) := HVb1.out.keep (fun r hr => b13.block r (HVb1.out.lt r hr))
 have HZ3 : Hid (w.heap.size ≤ w2.heap.size) := by have := b2.size; rw [HZ1.out] at this; exact this
 have hgw : g < w.heap.size := H.out.row.lt
 have hg2 : g ≠ w2.heap.size := by have := HZ3.out; omega
 obtain ⟨E, hE⟩ : ∃ E, E = Lf.decodeE (Tr.page s ((q : Int) + 1)) := ⟨_, rfl⟩
 rw [← hE]
 have HE : Hid (E = Lf.decodeE (Tr.page s ((q : Int) + 1))) := hE
 obtain ⟨e0, e1, e2, e3, e4⟩ := H3.out.five
 have g4 := H3.out.row.frozen 4
 have HIl : Hid ((Tr.nod s ((q : Int) + 1)).1.length = il) := (rList_len I3.out).1
 have HKl : Hid ((Tr.nod s ((q : Int) + 1)).2.length = kl) := (rList_len K3.out).1
 have hil : il ≤ 3 := by rw [← HIl.out]; exact (Lf.decodeN_len _).1
 have hkl : kl ≤ 4 := by rw [← HKl.out]; exact (Lf.decodeN_len _).2
 have H4 : Hid (Walks (w3.setCell ⟨g, 4, none⟩ (.bool (E != 0))) g gm P (some ⟨pb, off, none⟩) pc oa on_ oc base s { k1 with bad := Tr.fault s ((q : Int) + 1) lo hi 0 }) := by
  rw [Tr.fault_zero, ← HE.out, show decide (E ≠ 0) = (E != 0) by cases h : (E != 0) <;> simp_all]
  exact H3.out.setBad A.out _
 clear hoI hoK b2 b3 b13 V3 z3 hE hw1 c0 c1 c2 c3 c4 cm fm d0 d1 d2 d3 d4 cp
 have BOX : Hid (∀ {wr : World}, Kept (· ≠ g) w3 wr → Row wr w2.heap.size 139 [.slice ia il ic, .slice ka kl kc]) := fun h => R3.out.keep (h.block _ (fun e => hg2 e.symm))
 have ITM : Hid (∀ {wr : World}, Kept (· ≠ g) w3 wr → rItms.rd wr (fun b => w1.heap.size ≤ b) [.slice ia il ic] (Tr.nod s ((q : Int) + 1)).1) := fun h => Rep.kept I3.out h (fun b hb _ => by have := HZ1.out; have := HS0.out; have := A.out.gb; omega)
 have BND : Hid (∀ {wr : World}, Kept (· ≠ g) w3 wr → IsBnd wr (.slice xa na ca) lo ∧ IsBnd wr (.slice xb nb cb) hi) := fun h => ⟨HVa3.out.keep (fun r hr => h.block r (HFr.out r (.inl hr)).1), HVb3.out.keep (fun r hr => h.block r (HFr.out r (.inr hr)).1)⟩
 have K4 : Hid (Kept (· ≠ g) w3 (w3.setCell ⟨g, 4, none⟩ (.bool (E != 0)))) := (Kept.refl _ w3).setCell (p := ⟨g, 4, none⟩) (fun h => h rfl) _
 go_wp2
 clear e0 e1 e2 e3 e4 g4 hw3
 go_loopw [12] (fun i wr => ∃ j : Nat, j ≤ il ∧ i = .int .i64 j ∧ Hid (Walks wr g gm P (some ⟨pb, off, none⟩) pc oa on_ oc base s { k1 with bad := Tr.fault s ((q : Int) + 1) lo hi j }) ∧ Hid (Kept (· ≠ g) w3 wr)) (fun i _ => il - (intOf i).toNat)
 case atStart => exact ⟨0, Nat.zero_le _, rfl, H4, K4⟩
 case round =>
  clear H4 K4
  obtain ⟨j, hj, rfl, HWr, HKr⟩ := hrel
  obtain ⟨e0, e1, e2, e3, e4⟩ := HWr.out.five
  have g4 := HWr.out.row.frozen 4
  obtain ⟨n0, n1⟩ := (BOX.out HKr.out).two
  by_cases hlt : j < il
  · have hjl : j < (Tr.nod s ((q : Int) + 1)).1.length := by rw [HIl.out]; exact hlt
    obtain ⟨g1, off1, rfl, -, -, hat⟩ := rItms_at (ITM.out HKr.out) (by omega)
    obtain ⟨i0, i1⟩ := hat j hjl
    have HNx : Hid _ := Tr.fault_succ lo hi hjl
    obtain ⟨Y, hY⟩ : ∃ Y, Y = (Tr.nod s ((q : Int) + 1)).1[j] := ⟨_, rfl⟩
    rw [← hY] at i0 i1 HNx
    clear hat hY
    have hjz : (j : Int) < (il : Int) := by omega
    have HBa : Hid _ := BND.out HKr.out
    cases hbj : Tr.fault s ((q : Int) + 1) lo hi j
    · rw [hbj] at e4
      rcases HLo.out with ⟨h2, rfl, rfl, rfl⟩ | ⟨a, qa, h2, rfl, rfl, rfl⟩
      · have hab : Tr.above lo Y.1 = true := by rw [h2]; rfl
        rcases HHi.out with ⟨h1, rfl, rfl, rfl⟩ | ⟨b, qb, h1, rfl, rfl, rfl⟩
        · have hun : Tr.under hi Y.1 = true := by rw [h1]; rfl
          have HN : Hid (Tr.fault s ((q : Int) + 1) lo hi (j + 1) = false) := by unfold Hid; rw [HNx.out, hbj]; show (false || !(Tr.above lo Y.1 && Tr.under hi Y.1)) = false; rw [hab, hun]; rfl
          have HW5 : Hid (Walks (wr.setCell ⟨g, 4, none⟩ (.bool false)) g gm P (some ⟨pb, off, none⟩) pc oa on_ oc base s { k1 with bad := Tr.fault s ((q : Int) + 1) lo hi (j + 1) }) := by rw [HN.out]; exact HWr.out.setBad A.out false
          have HK5 : Hid (Kept (· ≠ g) w3 (wr.setCell ⟨g, 4, none⟩ (.bool false))) := HKr.out.setCell (p := ⟨g, 4, none⟩) (fun h => h rfl) _
          clear HNx hbj
          go_wp2
          go_roundw
          case rel => exact ⟨j + 1, by omega, by go_num, HW5, HK5⟩
          case measure => simp [intOf]; omega
        · have hcb := (HBa.out.2 : IsBnd wr _ hi)
          rw [h1] at hcb
          have cb := hcb.cell
          clear hcb
          by_cases hge : b.toNat ≤ Y.1.toNat
          · have hun : Tr.under hi Y.1 = false := by rw [h1]; unfold Tr.under; simp; omega
            have hgz : (Y.1.toNat : Int) ≥ (b.toNat : Int) := by omega
            have HN : Hid (Tr.fault s ((q : Int) + 1) lo hi (j + 1) = true) := by unfold Hid; rw [HNx.out, hbj]; show (false || !(Tr.above lo Y.1 && Tr.under hi Y.1)) = true; rw [hab, hun]; rfl
            have HW5 : Hid (Walks (wr.setCell ⟨g, 4, none⟩ (.bool true)) g gm P (some ⟨pb, off, none⟩) pc oa on_ oc base s { k1 with bad := Tr.fault s ((q : Int) + 1) lo hi (j + 1) }) := by rw [HN.out]; exact HWr.out.setBad A.out true
            have HK5 : Hid (Kept (· ≠ g) w3 (wr.setCell ⟨g, 4, none⟩ (.bool true))) := HKr.out.setCell (p := ⟨g, 4, none⟩) (fun h => h rfl) _
            clear HNx hbj
            go_wp2
            go_roundw
            case rel => exact ⟨j + 1, by omega, by go_num, HW5, HK5⟩
            case measure => simp [intOf]; omega
          · have hun : Tr.under hi Y.1 = true := by rw [h1]; unfold Tr.under; simp; omega
            have hgz : ¬ (Y.1.toNat : Int) ≥ (b.toNat : Int) := by omega
            have HN : Hid (Tr.fault s ((q : Int) + 1) lo hi (j + 1) = false) := by unfold Hid; rw [HNx.out, hbj]; show (false || !(Tr.above lo Y.1 && Tr.under hi Y.1)) = false; rw [hab, hun]; rfl
            have HW5 : Hid (Walks (wr.setCell ⟨g, 4, none⟩ (.bool false)) g gm P (some ⟨pb, off, none⟩) pc oa on_ oc base s { k1 with bad := Tr.fault s ((q : Int) + 1) lo hi (j + 1) }) := by rw [HN.out]; exact HWr.out.setBad A.out false
            have HK5 : Hid (Kept (· ≠ g) w3 (wr.setCell ⟨g, 4, none⟩ (.bool false))) := HKr.out.setCell (p := ⟨g, 4, none⟩) (fun h => h rfl) _
            clear HNx hbj
            go_wp2
            go_roundw
            case rel => exact ⟨j + 1, by omega, by go_num, HW5, HK5⟩
            case measure => simp [intOf]; omega
      · have hca := (HBa.out.1 : IsBnd wr _ lo)
        rw [h2] at hca
        have ca := hca.cell
        clear hca
        by_cases hlow : Y.1.toNat < a.toNat
        · have hab : Tr.above lo Y.1 = false := by rw [h2]; unfold Tr.above; simp; omega
          have hlz2 : (Y.1.toNat : Int) < (a.toNat : Int) := by omega
          have HN : Hid (Tr.fault s ((q : Int) + 1) lo hi (j + 1) = true) := by unfold Hid; rw [HNx.out, hbj]; show (false || !(Tr.above lo Y.1 && Tr.under hi Y.1)) = true; rw [hab]; rfl
          have HW5 : Hid (Walks (wr.setCell ⟨g, 4, none⟩ (.bool true)) g gm P (some ⟨pb, off, none⟩) pc oa on_ oc base s { k1 with bad := Tr.fault s ((q : Int) + 1) lo hi (j + 1) }) := by rw [HN.out]; exact HWr.out.setBad A.out true
          have HK5 : Hid (Kept (· ≠ g) w3 (wr.setCell ⟨g, 4, none⟩ (.bool true))) := HKr.out.setCell (p := ⟨g, 4, none⟩) (fun h => h rfl) _
          clear HNx hbj
          go_wp2
          go_roundw
          case rel => exact ⟨j + 1, by omega, by go_num, HW5, HK5⟩
          case measure => simp [intOf]; omega
        · have hab : Tr.above lo Y.1 = true := by rw [h2]; unfold Tr.above; simp; omega
          have hlz2 : ¬ (Y.1.toNat : Int) < (a.toNat : Int) := by omega
          rcases HHi.out with ⟨h1, rfl, rfl, rfl⟩ | ⟨b, qb, h1, rfl, rfl, rfl⟩
          · have hun : Tr.under hi Y.1 = true := by rw [h1]; rfl
            have HN : Hid (Tr.fault s ((q : Int) + 1) lo hi (j + 1) = false) := by unfold Hid; rw [HNx.out, hbj]; show (false || !(Tr.above lo Y.1 && Tr.under hi Y.1)) = false; rw [hab, hun]; rfl
            have HW5 : Hid (Walks (wr.setCell ⟨g, 4, none⟩ (.bool false)) g gm P (some ⟨pb, off, none⟩) pc oa on_ oc base s { k1 with bad := Tr.fault s ((q : Int) + 1) lo hi (j + 1) }) := by rw [HN.out]; exact HWr.out.setBad A.out false
            have HK5 : Hid (Kept (· ≠ g) w3 (wr.setCell ⟨g, 4, none⟩ (.bool false))) := HKr.out.setCell (p := ⟨g, 4, none⟩) (fun h => h rfl) _
            clear HNx hbj
            go_wp2
            go_roundw
            case rel => exact ⟨j + 1, by omega, by go_num, HW5, HK5⟩
            case measure => simp [intOf]; omega
          · have hcb := (HBa.out.2 : IsBnd wr _ hi)
            rw [h1] at hcb
            have cb := hcb.cell
            clear hcb
            by_cases hge : b.toNat ≤ Y.1.toNat
            · have hun : Tr.under hi Y.1 = false := by rw [h1]; unfold Tr.under; simp; omega
              have hgz : (Y.1.toNat : Int) ≥ (b.toNat : Int) := by omega
              have HN : Hid (Tr.fault s ((q : Int) + 1) lo hi (j + 1) = true) := by unfold Hid; rw [HNx.out, hbj]; show (false || !(Tr.above lo Y.1 && Tr.under hi Y.1)) = true; rw [hab, hun]; rfl
              have HW5 : Hid (Walks (wr.setCell ⟨g, 4, none⟩ (.bool true)) g gm P (some ⟨pb, off, none⟩) pc oa on_ oc base s { k1 with bad := Tr.fault s ((q : Int) + 1) lo hi (j + 1) }) := by rw [HN.out]; exact HWr.out.setBad A.out true
              have HK5 : Hid (Kept (· ≠ g) w3 (wr.setCell ⟨g, 4, none⟩ (.bool true))) := HKr.out.setCell (p := ⟨g, 4, none⟩) (fun h => h rfl) _
              clear HNx hbj
              go_wp2
              go_roundw
              case rel => exact ⟨j + 1, by omega, by go_num, HW5, HK5⟩
              case measure => simp [intOf]; omega
            · have hun : Tr.under hi Y.1 = true := by rw [h1]; unfold Tr.under; simp; omega
              have hgz : ¬ (Y.1.toNat : Int) ≥ (b.toNat : Int) := by omega
              have HN : Hid (Tr.fault s ((q : Int) + 1) lo hi (j + 1) = false) := by unfold Hid; rw [HNx.out, hbj]; show (false || !(Tr.above lo Y.1 && Tr.under hi Y.1)) = false; rw [hab, hun]; rfl
              have HW5 : Hid (Walks (wr.setCell ⟨g, 4, none⟩ (.bool false)) g gm P (some ⟨pb, off, none⟩) pc oa on_ oc base s { k1 with bad := Tr.fault s ((q : Int) + 1) lo hi (j + 1) }) := by rw [HN.out]; exact HWr.out.setBad A.out false
              have HK5 : Hid (Kept (· ≠ g) w3 (wr.setCell ⟨g, 4, none⟩ (.bool false))) := HKr.out.setCell (p := ⟨g, 4, none⟩) (fun h => h rfl) _
              clear HNx hbj
              go_wp2
              go_roundw
              case rel => exact ⟨j + 1, by omega, by go_num, HW5, HK5⟩
              case measure => simp [intOf]; omega
    · rw [hbj] at e4
      have HN : Hid (Tr.fault s ((q : Int) + 1) lo hi (j + 1) = true) := by unfold Hid; rw [HNx.out, hbj]; rfl
      have HW5 : Hid (Walks (wr.setCell ⟨g, 4, none⟩ (.bool true)) g gm P (some ⟨pb, off, none⟩) pc oa on_ oc base s { k1 with bad := Tr.fault s ((q : Int) + 1) lo hi (j + 1) }) := by rw [HN.out]; exact HWr.out.setBad A.out true
      have HK5 : Hid (Kept (· ≠ g) w3 (wr.setCell ⟨g, 4, none⟩ (.bool true))) := HKr.out.setCell (p := ⟨g, 4, none⟩) (fun h => h rfl) _
      clear HNx hbj
      go_wp2
      go_roundw
      case rel => exact ⟨j + 1, by omega, by go_num, HW5, HK5⟩
      case measure => simp [intOf]; omega
  · obtain rfl : il = j := by omega
    have HFa : Hid (Tr.fault s ((q : Int) + 1) lo hi il = !Tr.good s ((q : Int) + 1) lo hi) := by have h := Tr.fault_all s ((q : Int) + 1) lo hi; rw [HIl.out] at h; exact h
    rw [HFa.out] at HWr e4
    rw [HG.out] at HWr e4
    have HEq : Hid (Tr.node s (f + 1) ((q : Int) + 1) lo hi k = { k1 with bad := true }) := by
     unfold Hid Tr.node
     rw [if_pos HO.out, HG.out, HK1.out, show ((q : Int) + 1).toNat - 1 = q by omega]
     rfl
    go_wp2
    (try simp only [Exit.inBlock, Exit.then])
    refine bodyPost_ret (results_none rfl _ _ _) rfl ?_
    exact NodeDone.of ⟨oa, on_, oc, rfl, by rw [HEq.out]; exact HWr.out, ⟨HKr.out.os.trans Q3.out.os, HKr.out.tape.trans Q3.out.tape, HKr.out.output.trans Q3.out.output, Nat.le_trans Q3.out.size HKr.out.size, fun b hb => (HKr.out.block b hb.2.1).trans (Q3.out.block b hb)⟩, fun r hr => .inl hr⟩
theorem itmCells_cons (x : Itm) (l : List Itm) : itmCells (x :: l) = .int .u64 (x.1.toNat : Int) :: .int .u64 (x.2.toNat : Int) :: itmCells l := rfl
theorem itmCells_zeros : ∀ n : Nat, itmCells (List.replicate n (0, 0)) = List.replicate (n * 2) (.int .u64 0)
 | 0 => rfl
 | n + 1 => by rw [List.replicate_succ, itmCells_cons, itmCells_zeros n, Nat.succ_mul, List.replicate_succ, List.replicate_succ]; rfl
theorem madeCells_itms (n : Nat) : (madeCells #[.int .u64 0, .int .u64 0] (n * 2)).toList = itmCells (List.replicate n (0, 0)) := by
 rw [itmCells_zeros]
 apply List.ext_getElem?
 intro j
 by_cases hj : j < n * 2
 · have h2 : j % 2 = 0 ∨ j % 2 = 1 := by omega
   rcases h2 with h | h <;> simp [madeCells, hj, h]
 · simp [madeCells, hj]
theorem itmCells_set1 : ∀ (l : List Itm) (k : Nat) (h : k < l.length) (x : UInt64), (itmCells l).set (k * 2) (.int .u64 (x.toNat : Int)) = itmCells (l.set k (x, l[k].2))
 | y :: l, 0, _, x => rfl
 | y :: l, k + 1, h, x => by
   have ih := itmCells_set1 l k (by simpa using h) x
   rw [itmCells_cons, show (k + 1) * 2 = k * 2 + 1 + 1 by omega, List.set_cons_succ, List.set_cons_succ, ih]
   rfl
theorem itmCells_set2 : ∀ (l : List Itm) (k : Nat) (h : k < l.length) (x : UInt64), (itmCells l).set (k * 2 + 1) (.int .u64 (x.toNat : Int)) = itmCells (l.set k (l[k].1, x))
 | y :: l, 0, _, x => rfl
 | y :: l, k + 1, h, x => by
   have ih := itmCells_set2 l k (by simpa using h) x
   rw [itmCells_cons, show (k + 1) * 2 + 1 = k * 2 + 1 + 1 + 1 by omega, List.set_cons_succ, List.set_cons_succ, ih]
   rfl
theorem itmCells_get {l : List Itm} {k : Nat} (h : k < l.length) : (itmCells l)[k * 2]? = some (.int .u64 (l[k].1.toNat : Int)) ∧ (itmCells l)[k * 2 + 1]? = some (.int .u64 (l[k].2.toNat : Int)) := by
 induction l generalizing k with
 | nil => simp at h
 | cons y l ih =>
   cases k with
   | zero => exact ⟨rfl, rfl⟩
   | succ k =>
     obtain ⟨h1, h2⟩ := ih (k := k) (by simpa using h)
     rw [itmCells_cons, show (k + 1) * 2 = k * 2 + 1 + 1 by omega]
     exact ⟨by rw [List.getElem?_cons_succ, List.getElem?_cons_succ]; exact h1, by rw [show k * 2 + 1 + 1 + 1 = (k * 2 + 1) + 1 + 1 by omega, List.getElem?_cons_succ, List.getElem?_cons_succ]; exact h2⟩
namespace Lf
def itemsK (b : List UInt8) (k : Nat) : List Itm := (List.range (cnt b)).map fun i => (if i < k then keyR b i else 0, 0)
def itemsV (b : List UInt8) (k : Nat) : List Itm := (List.range (cnt b)).map fun i => (keyR b i, if i < k then valR b i else 0)
def kidsR (b : List UInt8) (k : Nat) : List Int := (List.range k).map (kidR b)
theorem itemsK_len (b : List UInt8) (k : Nat) : (itemsK b k).length = cnt b := by simp [itemsK]
theorem itemsV_len (b : List UInt8) (k : Nat) : (itemsV b k).length = cnt b := by simp [itemsV]
theorem itemsK_zero (b : List UInt8) : itemsK b 0 = List.replicate (cnt b) (0, 0) := by
 refine List.ext_getElem (by simp [itemsK]) fun i h1 h2 => ?_
 simp [itemsK]
theorem itemsV_zero (b : List UInt8) : itemsV b 0 = itemsK b (cnt b) := by
 refine List.ext_getElem (by simp [itemsK, itemsV]) fun i h1 h2 => ?_
 have : i < cnt b := by simpa [itemsV] using h1
 simp [itemsK, itemsV, this]
theorem itemsK_next {b : List UInt8} {k : Nat} (h : k < cnt b) : (itemsK b k).set k (keyR b k, ((itemsK b k)[k]'(by rw [itemsK_len]; exact h)).2) = itemsK b (k + 1) := by
 refine List.ext_getElem (by simp [itemsK]) fun i h1 h2 => ?_
 rw [List.getElem_set]
 by_cases e : k = i
 · subst e; simp [itemsK]
 · rw [if_neg e]
   simp only [itemsK, List.getElem_map, List.getElem_range]
   by_cases e2 : i < k
   · rw [if_pos e2, if_pos (by omega)]
   · rw [if_neg e2, if_neg (by omega)]
theorem itemsV_next {b : List UInt8} {k : Nat} (h : k < cnt b) : (itemsV b k).set k (((itemsV b k)[k]'(by rw [itemsV_len]; exact h)).1, valR b k) = itemsV b (k + 1) := by
 refine List.ext_getElem (by simp [itemsV]) fun i h1 h2 => ?_
 rw [List.getElem_set]
 by_cases e : k = i
 · subst e; simp [itemsV]
 · rw [if_neg e]
   simp only [itemsV, List.getElem_map, List.getElem_range]
   by_cases e2 : i < k
   · rw [if_pos e2, if_pos (by omega)]
   · rw [if_neg e2, if_neg (by omega)]
theorem itemsV_all {b : List UInt8} (h : b.getD 0 0 = 1) : itemsV b (cnt b) = readI b := by
 unfold itemsV readI
 refine List.map_congr_left fun i hi => ?_
 rw [if_pos (List.mem_range.1 hi), if_pos h]
theorem itemsK_all {b : List UInt8} (h : b.getD 0 0 = 2) : itemsK b (cnt b) = readI b := by
 unfold itemsK readI
 refine List.map_congr_left fun i hi => ?_
 rw [if_pos (List.mem_range.1 hi), if_neg (by rw [h]; decide)]
theorem kidsR_next (b : List UInt8) (k : Nat) : kidsR b (k + 1) = kidsR b k ++ [kidR b k] := by simp [kidsR, List.range_succ]
theorem readK_leaf {b : List UInt8} (h : b.getD 0 0 = 1) : readK b = [] := by unfold readK; rw [if_neg (by rw [h]; decide)]
theorem readK_kids {b : List UInt8} (h : b.getD 0 0 = 2) : readK b = kidsR b (cnt b + 1) := by unfold readK kidsR; rw [if_pos h]
theorem num_one (x : UInt8) : Oct.num [x] = x.toNat := by simp [Oct.num]
theorem getN_one {b : List UInt8} {p : Nat} (h : p + 1 ≤ b.length) : getN b p 1 = (b.getD p 0).toNat := by
 rw [getN_in (by decide) (by decide) h]
 have e : Oct.cut b p 1 = [b.getD p 0] := by
  unfold Oct.cut
  rw [List.drop_eq_getElem_cons (show p < b.length by omega), show b.getD p 0 = b[p]'(by omega) by simp [List.getD, List.getElem?_eq_getElem (show p < b.length by omega)], List.take_succ_cons, List.take_zero]
 rw [e, num_one]
end Lf
set_option maxHeartbeats 400000 in
theorem make_itms (w : World) {ops : Array Oper} {rest : List Oper} {o : Oper} {a : Go.Act} {Q : Exit → Go.Act → World → Prop}
 (hg : o.guard = none) (l c : Operand) (hop : o.op = Op.makeSlice 36 l c)
 (n : Nat) (C : Int) (hC : C = (n : Int)) (hl : a.eval l = .int .i64 C) (hc : a.eval c = .int .i64 C) (hn : n ≤ 1000000)
 (hK : ∀ w', Hid (Row w' w.heap.size 45 (itmCells (List.replicate n (0, 0)))) → Below w.heap.size w w' → w'.heap.size = w.heap.size + 1 → wpList Tryz.prog ops Q rest (a.put o.dst (.slice (some ⟨w.heap.size, 0, none⟩) n n)) w') :
 wpList Tryz.prog ops Q (o :: rest) a w := by
 subst hC
 obtain ⟨i, hi, hz0, hz1, hz2⟩ := info_parts (show (Tryz.prog.info? 45).map (fun i => (i.zero, i.size, i.bytes)) = some (some (.agg #[.int .u64 0, .int .u64 0]), 2, 16) by kernel_rfl)
 refine wpList_plain hg fun K hK' => ?_
 have hr := run_make (P := Tryz.prog) w 36 45 i (.agg #[.int .u64 0, .int .u64 0]) Tryz.underlying36 hi hz0 .i64 .i64 n n (by omega) (Int.le_refl _) (by rw [hz2]; omega) (by omega)
 simp only [Int.toNat_natCast, hz1] at hr
 unfold Oper.wp
 simp only [execOp, hop, hl, hc, hr, Result.andThen, Sem.run_bind, Sem.run_pure]
 have e : (madeCells (Value.agg #[.int .u64 0, .int .u64 0]).cells (n * 2)) = (itmCells (List.replicate n (0, 0))).toArray := by
  rw [← madeCells_itms, Array.toArray_toList]; rfl
 rw [e]
 exact hK' _ _ (hK _ (row_new w _ _) ((Below.refl _ _).alloc (Nat.le_refl _) _) (by simp))
structure Reads (gA gB xb xo cap : Nat) (b : List UInt8) (w : World) (p : Nat) : Prop where
 spot : Row w gA 3 [.int .i64 (p : Int)]
 box : Row w gB 53 [.slice (some ⟨xb, xo, none⟩) 60 cap]
 oct : IsB w (some ⟨xb, xo, none⟩) 60 b
theorem IsB.keepB {w w' : World} {xb xo n : Nat} {l : List UInt8} (h : IsB w (some ⟨xb, xo, none⟩) n l) (hb : w'.heap[xb]? = w.heap[xb]?) : IsB w' (some ⟨xb, xo, none⟩) n l := by
 refine ⟨h.1, h.2.1, fun x hx j hj => ?_⟩
 have hc := h.2.2 x hx j hj
 simp only [Option.some.injEq] at hx
 subst hx
 rw [Addr.add_lit] at hc ⊢
 rw [World.cell?_of_block (w := w) (a := ⟨xb, xo + j, none⟩) hb]
 exact hc
theorem IsB.lt {w : World} {xb xo : Nat} {l : List UInt8} (h : IsB w (some ⟨xb, xo, none⟩) 60 l) : xb < w.heap.size := by
 have hl := h.1
 have := h.2.2 _ rfl 0 (by omega)
 rw [Addr.add_lit] at this
 exact World.block_lt_of_cell? _ _ this
theorem Reads.keep {gA gB xb xo cap : Nat} {b : List UInt8} {w w' : World} {p : Nat} (h : Reads gA gB xb xo cap b w p) (k : ∀ x, x = gA ∨ x = gB ∨ x = xb → w'.heap[x]? = w.heap[x]?) : Reads gA gB xb xo cap b w' p :=
 ⟨h.spot.keep (k gA (.inl rfl)), h.box.keep (k gB (.inr (.inl rfl))), h.oct.keepB (k xb (.inr (.inr rfl)))⟩
theorem Reads.below {gA gB xb xo cap : Nat} {b : List UInt8} {w w' : World} {p : Nat} (h : Reads gA gB xb xo cap b w p) (k : Below w.heap.size w w') : Reads gA gB xb xo cap b w' p :=
 ⟨h.spot.below k, h.box.below k, h.oct.below k⟩
set_option maxHeartbeats 1000000 in
theorem next_c (gA gB xb xo cap : Nat) (b : List UInt8) (w : World) (p : Nat) (hab : gA ≠ gB) (hax : gA ≠ xb) (h : Reads gA gB xb xo cap b w p) (s : Nat) (S : Int) (hS : S = (s : Int)) (h2 : s ≤ 8) (hp : p ≤ 100000) :
 Calls Tryz.prog 138 #[.int .i64 S, .pointer (some ⟨gB, 0, none⟩), .pointer (some ⟨gA, 0, none⟩)] w fun e w' => e = .returned (.int .u64 (Lf.getN b p s : Nat)) ∧ Reads gA gB xb xo cap b w' (p + s) ∧ Kept (fun x => x < w.heap.size ∧ x ≠ gA) w w' := by
 subst hS
 have HR : Hid _ := h
 have q0 := h.spot.cell (j := 0) rfl
 have q1 := h.box.cell (j := 0) rfl
 clear h
 obtain ⟨G, hG⟩ : ∃ G, G = Lf.getN b p s := ⟨_, rfl⟩
 rw [← hG]
 have HG : Hid (Oct.getV b (p : Int) (s : Int) = G) := hG.symm
 clear hG
 go_enter Tryz.func138, Tryz.ntmps138
 go_wp2_with fail
 refine (get_u w _ 60 cap b (p : Int) (s : Int) (by omega) (by decide) HR.out.oct).mono ?_
 rintro e w1 ⟨rfl, b1⟩
 have HR1 : Hid _ := HR.out.below b1
 have HB : Hid _ := b1
 have HL : Hid (gA < w.heap.size ∧ gB < w.heap.size ∧ xb < w.heap.size) := ⟨HR.out.spot.lt, HR.out.box.lt, HR.out.oct.lt⟩
 clear q0 q1 b1
 have q0 := HR1.out.spot.cell (j := 0) rfl
 have q2 := HR1.out.spot.frozen 0
 have q1 := HR1.out.box.cell (j := 0) rfl
 rw [HG.out]
 obtain ⟨E, hE⟩ : ∃ E, E = Oct.getE b (p : Int) (s : Int) := ⟨_, rfl⟩
 rw [← hE]
 clear hE
 go_wp2
 go_ret
 refine ⟨rfl, ⟨?_, ?_, ?_⟩, ?_⟩
 · have := HR1.out.spot.set 0 (.int .i64 ((p + s : Nat) : Int))
   simpa using this
 · exact HR1.out.box.setO (p := ⟨gA, 0, none⟩) hab _
 · exact HR1.out.oct.keepB (Below.heap_setCell _ _ _ _ (fun e => hax e.symm))
 · exact ⟨HB.out.os, HB.out.tape, HB.out.output, by have := HB.out.size; simpa [World.setCell] using this, fun x hx => (Below.heap_setCell _ _ _ _ (fun e => hx.2 e)).trans (HB.out.block x hx.1)⟩
theorem kept_below1 {B gA : Nat} {w0 w w' : World} (h : Below B w0 w) (k : Kept (fun b => b < w.heap.size ∧ b ≠ gA) w w') (hB : B ≤ w.heap.size) (ha : B ≤ gA) : Below B w0 w' :=
 h.trans ⟨k.os, k.tape, k.output, k.size, fun b hb => k.block b ⟨by omega, by omega⟩⟩
theorem Row.kept1 {w w' : World} {g gA : Nat} {t : TypeId} {xs : List Value} (h : Row w g t xs) (k : Kept (fun b => b < w.heap.size ∧ b ≠ gA) w w') (hne : g ≠ gA) : Row w' g t xs := h.keep (k.block g ⟨h.lt, hne⟩)
theorem st_retv {Pr : Program} {fn : Func} {p q : Tmp} {ty t : TypeId} {tmps : Array Value} {w w2 : World} {b : Nat} {d : TypeDesc} {x0 x1 : Value} (V : Row w2 b t [x0, x1]) (bel : Below w.heap.size w w2) (hb : w.heap.size ≤ b)
 (u0 u1 v : Value) (h : fn.results = #[.cell p ty, .tmp q]) (hp : tmps.getD p undef = .pointer (some ⟨b, 0, none⟩)) (hq : tmps.getD q undef = v)
 (hu : Pr.underlying ty = some d) (hd : d.isRow = true) (hi : (Pr.info? ty).map (·.size) = some 2) {R : Ending → World → Prop}
 (hR : ∀ w', Kept (· ≠ b) w2 w' → Below w.heap.size w w' → R (.returned (.tuple #[.agg #[u0, u1], v])) w') :
 bodyPost Pr fn R .ret { tmps := tmps, defers := [] } ((w2.setCell ⟨b, 0, none⟩ u0).setCell ⟨b, 1, none⟩ u1) := by
 obtain ⟨w', hw, V', K'⟩ := V.whole2 u0 u1
 rw [hw]
 have hr := results_rowt (Pr := Pr) (fn := fn) h hp V' hu hd hi
 rw [hq] at hr
 exact bodyPost_ret hr rfl (hR w' K' (Kept.belowOf bel K' hb))
theorem equal_u (w : World) (a a' : Option Addr) (n c n' c' : Nat) (l m : List UInt8) (hL : IsB w a n l) (hM : IsB w a' n' m) (r : Bool) (hr : (l == m) = r) :
 Calls Tryz.prog 124 #[.slice a n c, .slice a' n' c'] w fun e w' => e = .returned (.bool r) ∧ w = w' := by
 have h1 := conv_bytes w a n c l hL
 have h2 := conv_bytes w a' n' c' m hM
 clear hL hM
 go_enter Tryz.func124, Tryz.ntmps124
 go_wp2
 go_ret
 exact ⟨by rw [← hr]; rfl, rfl⟩
end Go.Proofs.YtkbmadoaomoojaaGreat
