/-
  Facts that the proof rests on, part 23. Conditions: those that each of them names.
-/
import Derived.Defers
import Derived.Recover
import Derived.Shelf.Abstract
import Derived.Test.YtkbmadoaomoojaaGreatK09
import Derived.Test.YtkbmadoaomoojaaGreatK21
namespace Go.Proofs.YtkbmadoaomoojaaGreat
set_option maxRecDepth 20000
open Go.RowKit
set_option linter.unusedVariables false
theorem wpS_region_gen {P : Program} {id : Nat} {ops : Array Oper} {Q : Exit → Go.Act → List Frame → World → Prop} {a : Go.Act} {cs : List Frame} {w : World}
 (h : ∀ Q' : Exit → Go.Act → List Frame → World → Prop, (∀ a cs w, Q .normal a cs w → Q' .normal a cs w) → wpOpsS P ops Q' (List.range ops.size) a cs w) : (Code.region id ops false).wpS P Q a cs w :=
 wpS_region (h Q (fun _ _ _ h => h))
theorem catch_idle (p : Addr) (w : World) :
 CallsD Tryz.prog 62 #[.pointer (some p)] .returning w fun e u' w' => e = .returned (.tuple #[]) ∧ u' = .returning ∧ w' = w := by
 refine callsD_of_wpS Tryz.func62 rfl fun c₀ cs hu => ?_
 simp only [Tryz.ntmps62, List.size_toArray, List.length_cons, List.length_nil, Nat.reduceAdd, Nat.reduceSub, Array.replicate_succ, Array.replicate_zero, List.push_toArray, List.append_toArray, List.nil_append, List.cons_append]
 apply wpS_seq
 apply wpS_region_gen
 intro Q' hQ
 simp [wpOpsS, go_sem, recoverD, hu]
 refine hQ _ _ _ ?_
 clear hQ Q'
 show Code.wpS _ _ _ _ _ _
 refine wpS_of_wp ?_
 go_wp2
 refine ⟨rfl, .returning, ?_, .tuple #[], by simp [results, Tryz.results62], rfl, rfl, rfl⟩
 cases c₀
 simp_all
theorem catch_broken (b : Nat) (x : Int) (w : World) (hc : w.cell? ⟨b, 0, none⟩ = some (.int .i64 0)) (hz : w.frozen? ⟨b, 0, none⟩ = false) (hb : b < w.heap.size) :
 CallsD Tryz.prog 62 #[.pointer (some ⟨b, 0, none⟩)] (.panicking [{ v := faultV x, recovered := false }]) w fun e u' w' =>
  e = .returned (.tuple #[]) ∧ u' = .panicking [{ v := faultV x, recovered := true }] ∧ w' = (w.setCell ⟨b, 0, none⟩ (.int .i64 x)).alloc (.cells #[.int .i64 x] 124) := by
 refine callsD_of_wpS Tryz.func62 rfl fun c₀ cs hu => ?_
 simp only [Tryz.ntmps62, List.size_toArray, List.length_cons, List.length_nil, Nat.reduceAdd, Nat.reduceSub, Array.replicate_succ, Array.replicate_zero, List.push_toArray, List.append_toArray, List.nil_append, List.cons_append]
 apply wpS_seq
 apply wpS_region_gen
 intro Q' hQ
 simp [wpOpsS, go_sem, recoverD, hu]
 refine hQ _ _ _ ?_
 clear hQ Q'
 show Code.wpS _ _ _ _ _ _
 refine wpS_of_wp ?_
 have hta : ∀ (v : Value) (w : World), (Instr.typeAssert (.iface 124 v) 20 124 true).run Tryz.prog w = .ok (.tuple #[v, .bool true]) w := fun v w => by
  simp [Instr.typeAssert, run_underlying Tryz.underlying124, Result.andThen]
 have hbz : b ≠ w.heap.size := by omega
 simp only [faultV]
 go_wp2
 exact ⟨rfl, _, rfl, .tuple #[], by simp [results, Tryz.results62], rfl, rfl, rfl⟩
theorem refusal_u (w : World) (f : Nat) (bs : Array Value) (eg : ∀ args w, (callFunc f args).run Tryz.prog w = .ok (.enter f args) w) (Q : Int → World → Prop)
 (hf : ∀ w0, w.alloc (.cells #[.int .i64 0] 28) = w0 → Calls Tryz.prog f bs w0 fun e w' => ∃ x, (e = .returned (.tuple #[]) ∧ x = 0 ∨ e = broke x) ∧ w'.heap[w.heap.size]? = w0.heap[w.heap.size]? ∧ w0.heap.size ≤ w'.heap.size ∧ Q x w') :
 Calls Tryz.prog 43 #[.func (.func f) #[] bs] w fun e w' => ∃ x w1, e = .returned (.int .i64 x) ∧ Q x w1 ∧ Turn [w.heap.size] w1 w' := by
 obtain ⟨w0, hw0, V0, b0, z0⟩ := boxedRow w 28 [.int .i64 0]
 have hc := hf w0 hw0
 have HV0 : Hid _ := V0
 have hmf : ∀ (fn : Fn) (first cap : Array Value) (w : World), (Instr.makeFunc fn first cap).run Tryz.prog w = .ok (.func fn first cap) w := fun _ _ _ _ => rfl
 clear V0 b0 z0 hf
 go_enter_defers Tryz.func43, Tryz.ntmps43
 go_wp2_with fail
 go_at_fn f
 refine hc.mono ?_
 clear hc
 rintro e w1 ⟨x, hx, hk, hs, hQ⟩
 have V1 : Row w1 w.heap.size 28 [.int .i64 0] := HV0.out.keep hk
 have c0 := V1.cell (j := 0) rfl
 have f0 := V1.frozen 0
 have hlt := V1.lt
 have HQ : Hid (Q x w1) := hQ
 clear hk hs hQ
 rcases hx with ⟨rfl, rfl⟩ | rfl
 · go_wp2_with fail
   have d0 : (w1.setCell ⟨w.heap.size, 0, none⟩ (.int .i64 0)).cell? ⟨w.heap.size, 0, none⟩ = some (.int .i64 0) := (V1.set 0 _).cell (j := 0) rfl
   have T1 : Turn [w.heap.size] w1 (w1.setCell ⟨w.heap.size, 0, none⟩ (.int .i64 0)) := (Turn.refl _ _).set (p := ⟨w.heap.size, 0, none⟩) (.inr (by simp)) _
   refine leaves_cons (f := 62) (args := #[.pointer (some ⟨w.heap.size, 0, none⟩)]) (by simp) (by simp [go_sem]) ?_
   refine (catch_idle _ _).mono ?_
   rintro e u' w'' ⟨rfl, rfl, rfl⟩
   generalize w1.setCell ⟨w.heap.size, 0, none⟩ (.int .i64 0) = w2 at *
   simp [Leaves, settle, results, Tryz.results43, go_sem, d0]
   exact ⟨w1, HQ.out, T1⟩
 · go_wp2_with fail
   have d0 : ((w1.setCell ⟨w.heap.size, 0, none⟩ (.int .i64 x)).alloc (.cells #[.int .i64 x] 124)).cell? ⟨w.heap.size, 0, none⟩ = some (.int .i64 x) := ((V1.set 0 (.int .i64 x)).below ((Below.refl _ _).alloc (Nat.le_refl _) _)).cell (j := 0) rfl
   have T1 : Turn [w.heap.size] w1 ((w1.setCell ⟨w.heap.size, 0, none⟩ (.int .i64 x)).alloc (.cells #[.int .i64 x] 124)) := ((Turn.refl _ _).set (p := ⟨w.heap.size, 0, none⟩) (.inr (by simp)) _).alloc _
   refine leaves_cons (f := 62) (args := #[.pointer (some ⟨w.heap.size, 0, none⟩)]) (by simp) (by simp [go_sem]) ?_
   refine (catch_broken w.heap.size x _ c0 f0 hlt).mono ?_
   rintro e u' w'' ⟨rfl, rfl, rfl⟩
   generalize (w1.setCell ⟨w.heap.size, 0, none⟩ (.int .i64 x)).alloc (.cells #[.int .i64 x] 124) = w2 at *
   simp [Leaves, settle, results, Tryz.results43, go_sem, d0]
   exact ⟨w1, HQ.out, T1⟩
namespace Tr
def lmet (s : Pgs) (root : Int) : List Int := if root = 0 then [] else ((lread s root).map fun r => r.1.met).getD []
end Tr
def Walked (s : Pgs) (root : Int) (pa : Option Addr) (pc : Nat) (w : World) (e : Ending) (w' : World) : Prop :=
 Below w.heap.size w w' ∧ (Tr.readE s root ≠ 0 → ∃ q, e = .returned (.tuple #[.pointer q, .int .i64 (Tr.readE s root)])) ∧
 (Tr.readE s root = 0 → ∃ g gm base k es, e = .returned (.tuple #[.pointer (some ⟨g, 0, none⟩), .int .i64 0]) ∧ LWalks w' g gm (· < w.heap.size) pa pc base s k es ∧ LApart (· < w.heap.size) g gm base ∧ base ≤ w'.heap.size ∧ w.heap.size ≤ g ∧ w.heap.size ≤ gm ∧ k.met = Tr.lmet s root)
theorem boxedMap (w : World) : ∃ w0, w.alloc (.map #[] 0) = w0 ∧ IsMet w0 w.heap.size [] ∧ Below w.heap.size w w0 ∧ w0.heap.size = w.heap.size + 1 :=
 ⟨_, rfl, met_new w, (Below.refl _ _).alloc (Nat.le_refl _) _, by simp⟩
theorem walkedFn_u (w : World) (s : Pgs) (root : Int) (bw br g gm : Nat) (P : Nat → Prop) (pa : Option Addr) (pc base : Nat) (hA : LApart P g gm base) (hW : LWalks w g gm P pa pc base s Tr.lnone []) (hb : base ≤ w.heap.size) (h0 : -9223372036854775808 ≤ root) (h1 : root ≤ 9223372036854775807)
 (Vw : Row w bw 65 [.pointer (some ⟨g, 0, none⟩)]) (Vr : Row w br 3 [.int .i64 root]) :
 Calls Tryz.prog 44 #[.pointer (some ⟨bw, 0, none⟩), .pointer (some ⟨br, 0, none⟩)] w fun e w' => Turn [g, gm] w w' ∧ (Tr.lread s root = none → e = broke 9) ∧ ∀ k a b, Tr.lread s root = some (k, a, b) → e = .returned (.tuple #[]) ∧ ∃ es, LWalks w' g gm P pa pc base s k es := by
 have HA : Hid _ := hA
 have HW : Hid _ := hW
 have HB : Hid _ := hb
 have c0 := Vw.cell (j := 0) rfl
 have c1 := Vr.cell (j := 0) rfl
 clear hA hW hb Vw Vr
 go_enter Tryz.func44, Tryz.ntmps44
 go_wp2_with fail
 go_at_call 45
 refine (walk_u s 16 (Nat.le_refl _) w g gm P pa pc base Tr.lnone [] root 1 (by decide) HA.out HW.out HB.out h0 h1).mono ?_
 rintro e w1 ⟨t1, hno, hyes⟩
 have HT : Hid _ := t1
 cases hr : Tr.lwalk s 16 root Tr.lnone with
 | none =>
   have e9 := hno hr
   subst e9
   have HR : Hid (Tr.lread s root = none) := hr
   clear hno hyes hr t1
   go_wp2_with fail
   exact ⟨rfl, HT.out, fun _ => rfl, (fun k a b h => by rw [HR.out] at h; cases h)⟩
 | some r =>
   obtain ⟨k, a, b⟩ := r
   obtain ⟨rfl, es, hW1⟩ := hyes k a b hr
   have HR : Hid (Tr.lread s root = some (k, a, b)) := hr
   have HW1 : Hid _ := hW1
   clear hno hyes hr t1 hW1
   go_wp2_with fail
   go_end0
   exact ⟨HT.out, (fun h => by rw [HR.out] at h; cases h), (fun k' a' b' h => by rw [HR.out] at h; cases h; exact ⟨rfl, es, HW1.out⟩)⟩
set_option maxHeartbeats 8000000 in
theorem walked_u (w : World) (P : Nat → Prop) (s : Pgs) (root : Int) (pa : Option Addr) (pc : Nat) (hR : rSectors.rd w P [.slice pa s.length pc] s) (h0 : -9223372036854775808 ≤ root) (h1 : root ≤ 9223372036854775807) :
 Calls Tryz.prog 22 #[.agg #[.slice pa s.length pc], .int .i64 root] w fun e w' => Walked s root pa pc w e w' := by
 have hR' := rSectors.weaken hR (fun b _ hl => (hl : b < w.heap.size))
 have HR : Hid (rSectors.rd w (fun b => b < w.heap.size) [.slice pa s.length pc] s) := hR'
 have hsl : s.length ≤ 5864062014634 := (rSectors_len hR).2
 have hmm := @run_makeMap Tryz.prog
 have hmf : ∀ (fn : Fn) (first cap : Array Value) (w : World), (Instr.makeFunc fn first cap).run Tryz.prog w = .ok (.func fn first cap) w := fun _ _ _ _ => rfl
 obtain ⟨wa, hwa, Va, ba, za⟩ := boxedRow w 26 [.slice pa s.length pc]
 obtain ⟨wb, hwb, Vb, bb, zb⟩ := boxedRow wa 3 [.int .i64 root]
 have a0 := (Va.below bb).cell (j := 0) rfl
 have BB : Hid (Below w.heap.size w wb) := on ba bb
 by_cases hl : 2048 < s.length
 · have hlz : (s.length : Int) > 2048 := by omega
   have HE : Hid (Tr.readE s root = 3) := by unfold Hid Tr.readE; rw [if_pos hl]
   clear hl hR hR' Va Vb ba bb za zb
   go_enter Tryz.func22, Tryz.ntmps22
   go_wp2
   go_ret2
   exact ⟨BB.out, fun _ => ⟨none, by rw [HE.out]; rfl⟩, (fun h => by rw [HE.out] at h; cases h)⟩
 · have hlz : ¬ (s.length : Int) > 2048 := by omega
   obtain ⟨wc, hwc, Vc, bc, zc⟩ := boxedMap wb
   obtain ⟨wd, hwd, Vd, bd, zd⟩ := boxedRow wc 70 [.slice pa s.length pc, .map (some wb.heap.size), .int .i64 0]
   obtain ⟨we, hwe, Ve, be, ze⟩ := boxedRow wd 65 [.pointer (some ⟨wc.heap.size, 0, none⟩)]
   have bbe : Below wb.heap.size wb we := on bc (on bd be)
   have BE : Hid _ := on BB.out bbe
   have e0 := ((Va.below bb).below bbe).cell (j := 0) rfl
   have e1 := (Vb.below bbe).cell (j := 0) rfl
   have e2 := Ve.cell (j := 0) rfl
   have HZ : Hid (w.heap.size < wb.heap.size ∧ wb.heap.size < wc.heap.size ∧ wc.heap.size < wd.heap.size ∧ wd.heap.size < we.heap.size) := ⟨by omega, by omega, by omega, by omega⟩
   have HP : Hid (rSectors.rd we (fun b => b < w.heap.size) [.slice pa s.length pc] s) := Rep.below HR.out BE.out
   have HW : Hid (LWalks we wc.heap.size wb.heap.size (fun b => b < w.heap.size) pa pc (we.heap.size + 1) s Tr.lnone []) :=
    ⟨Vd.below be, HP.out, Vc.below (on bd be), rfl, fun z hz => by simp at hz, by simp [Tr.lnone]⟩
   have HA : Hid (LApart (fun b => b < w.heap.size) wc.heap.size wb.heap.size (we.heap.size + 1)) := by
    have := HZ.out
    exact ⟨by omega, by omega, by omega, by omega, by omega⟩
   have HVw : Hid _ := Ve
   have HVr : Hid (Row we wa.heap.size 3 [.int .i64 root]) := Vb.below bbe
   have HVs : Hid (wa.heap.size < wb.heap.size) := by unfold Hid; omega
   have HW0 : Hid (LWalks we wc.heap.size wb.heap.size (fun b => b < w.heap.size) pa pc we.heap.size s Tr.lnone []) :=
    ⟨Vd.below be, HP.out, Vc.below (on bd be), rfl, fun z hz => by simp at hz, by simp [Tr.lnone]⟩
   have HA0 : Hid (LApart (fun b => b < w.heap.size) wc.heap.size wb.heap.size we.heap.size) := by
    have := HZ.out
    exact ⟨by omega, by omega, by omega, by omega, by omega⟩
   by_cases hr0 : root = 0
   · subst hr0
     have HE : Hid (Tr.readE s 0 = 0) := by unfold Hid Tr.readE; rw [if_neg hl, if_pos rfl]
     clear hl hR hR' Va Vb ba bb za zb Vc bc zc Vd bd zd Ve be ze bbe
     go_enter Tryz.func22, Tryz.ntmps22
     go_wp2
     go_ret2
     refine ⟨BE.out, fun h => absurd HE.out h, fun _ => ⟨_, _, _, _, _, rfl, HW0.out, HA0.out, Nat.le_refl _, ?_, ?_, ?_⟩⟩
     · have := HZ.out; omega
     · have := HZ.out; omega
     · rfl
   · have hrz : (root == 0) = false := beq_eq_false_iff_ne.2 hr0
     have HR0 : Hid (root ≠ 0) := hr0
     have HL : Hid (¬ 2048 < s.length) := hl
     clear hl hR hR' Va Vb ba bb za zb Vc bc zc Vd bd zd Ve be ze bbe hr0
     go_enter Tryz.func22, Tryz.ntmps22
     go_wp2_with fail
     go_at_call 43
     refine (refusal_u we 44 #[.pointer (some ⟨wd.heap.size, 0, none⟩), .pointer (some ⟨wa.heap.size, 0, none⟩)] (fun args w => enters_of Tryz.func44 (by kernel_rfl) rfl args w)
      (fun x w' => Turn [wc.heap.size, wb.heap.size] (we.alloc (.cells #[.int .i64 0] 28)) w' ∧ (Tr.lread s root = none ∧ x = 9 ∨ ∃ k a b es, Tr.lread s root = some (k, a, b) ∧ x = 0 ∧ LWalks w' wc.heap.size wb.heap.size (fun b => b < w.heap.size) pa pc (we.heap.size + 1) s k es)) ?_).mono ?_
     · intro w0 hw0
       have b0 : Below we.heap.size we w0 := by rw [← hw0]; exact (Below.refl _ _).alloc (Nat.le_refl _) _
       have z0 : we.heap.size < w0.heap.size := by rw [← hw0]; simp
       refine (walkedFn_u w0 s root wd.heap.size wa.heap.size _ _ _ pa pc (we.heap.size + 1) HA.out (HW.out.below b0) (by omega) h0 h1 (HVw.out.below b0) (HVr.out.below b0)).mono ?_
       rintro e w' ⟨t, hno, hyes⟩
       have hk : w'.heap[we.heap.size]? = w0.heap[we.heap.size]? := t.block _ ⟨z0, by have := HZ.out; simp; omega⟩
       cases hr : Tr.lread s root with
       | none => exact ⟨9, .inr (hno hr), hk, t.size, by rw [hw0]; exact t, .inl ⟨rfl, rfl⟩⟩
       | some r =>
         obtain ⟨k, a, b⟩ := r
         obtain ⟨rfl, es, hW1⟩ := hyes k a b hr
         exact ⟨0, .inl ⟨rfl, rfl⟩, hk, t.size, by rw [hw0]; exact t, .inr ⟨k, a, b, es, rfl, rfl, hW1⟩⟩
     · rintro e w2 ⟨x, w1, rfl, ⟨t1, hx⟩, t2⟩
       obtain ⟨w0, hw0, V0, b0, z0⟩ := boxedRow we 28 [.int .i64 0]
       rw [hw0] at t1
       have b1 : Below w.heap.size w w1 := (on BE.out b0).trans (t1.below (by have := BE.out.size; have := b0.size; omega) (by have := HZ.out; simp; omega))
       have B2 : Hid (Below w.heap.size w w2) := b1.trans (t2.below b1.size (by have := HZ.out; simp; omega))
       have t12 : Turn [wc.heap.size, wb.heap.size, we.heap.size] w0 w2 := (t1.mono (fun b hb _ => by simp at hb ⊢; omega)).trans (t2.mono (fun b hb _ => by simp at hb ⊢; omega))
       have d0 : w2.cell? ⟨wd.heap.size, 0, none⟩ = some (.pointer (some ⟨wc.heap.size, 0, none⟩)) := (t12.row (HVw.out.below b0) (by have := HZ.out; simp; omega)).cell (j := 0) rfl
       have HX : Hid _ := hx
       have HT2 : Hid _ := t2
       have HS : Hid (we.heap.size < w1.heap.size) := by have := t1.size; unfold Hid; omega
       clear b1 t12 t1 t2 hx b0 V0 z0 hw0
       go_wp2
       go_ret2
       rcases HX.out with ⟨hr, rfl⟩ | ⟨k, a, b, es, hr, rfl, hW1⟩
       · have hE : Tr.readE s root = 9 := by unfold Tr.readE; rw [if_neg HL.out, if_neg HR0.out, if_pos (Tr.lread_none.1 hr)]
         exact ⟨B2.out, fun _ => ⟨_, by rw [hE]; rfl⟩, (fun h => by rw [hE] at h; cases h)⟩
       · have hb : (Tr.walk s root).bad = false := by
          cases hb : (Tr.walk s root).bad with
          | false => rfl
          | true => rw [Tr.lread_none.2 hb] at hr; cases hr
         have hE : Tr.readE s root = 0 := by unfold Tr.readE; rw [if_neg HL.out, if_neg HR0.out, hb]; rfl
         refine ⟨B2.out, fun h => absurd hE h, fun _ => ⟨_, _, we.heap.size + 1, k, es, rfl, hW1.turn HT2.out ?_ ?_ ?_ ?_, HA.out, ?_, ?_, ?_, ?_⟩⟩
         · have := HZ.out; simp; omega
         · have := HZ.out; simp; omega
         · intro b hb; have := HZ.out; simp; omega
         · simp
         · have := HT2.out.size; have := HS.out; omega
         · have := HZ.out; omega
         · have := HZ.out; omega
         · unfold Tr.lmet
           rw [if_neg HR0.out, hr]
           rfl
def rBrn : Rep Brn where
 size := 2
 bytes := 16
 rd _ _ cs x := cs = [.int .u64 (x.1.toNat : Int), .int .i64 x.2]
 len h := by rw [h]; rfl
 one h v hv := by rw [h] at hv; simp at hv; rcases hv with rfl | rfl <;> rfl
 keep h _ := h
 weaken h _ := h
def rBrns : Rep (List Brn) := rList rBrn (by decide)
def brn2 (x : Brn) : List Value := [.int .u64 (x.1.toNat : Int), .int .i64 x.2]
def brnCells (l : List Brn) : List Value := l.flatMap brn2
theorem rBrn_rd {w : World} {P : Nat → Prop} {cs : List Value} {x : Brn} : rBrn.rd w P cs x ↔ cs = brn2 x := by
 constructor
 · intro h
   exact h
 · intro h
   exact h
theorem rBrns_all {w : World} {P : Nat → Prop} : ∀ {l : List Brn} {xs : List Value}, rdAll rBrn w P xs l ↔ xs = brnCells l
 | [], xs => ⟨fun h => h, fun h => h⟩
 | y :: l, xs => by
   constructor
   · rintro ⟨c, r, rfl, h1, h2⟩
     obtain rfl := rBrn_rd.1 h1
     obtain rfl := rBrns_all.1 h2
     rfl
   · rintro rfl
     exact ⟨brn2 y, brnCells l, rfl, rBrn_rd.2 rfl, rBrns_all.2 rfl⟩
theorem rBrns_at {w : World} {P : Nat → Prop} {a : Option Addr} {n c : Nat} {l : List Brn} (h : rBrns.rd w P [.slice a n c] l) (hn : 0 < n) :
 ∃ b off, a = some ⟨b, off, none⟩ ∧ P b ∧ b < w.heap.size ∧ ∀ (j : Nat) (hj : j < l.length),
   w.cell? ⟨b, off + j * 2, none⟩ = some (.int .u64 (l[j].1.toNat : Int)) ∧ w.cell? ⟨b, off + j * 2 + 1, none⟩ = some (.int .i64 l[j].2) := by
 obtain ⟨b, off, e1, e2, e3, e4⟩ := rList_at h hn
 refine ⟨b, off, e1, e2, e3, fun j hj => ?_⟩
 obtain ⟨cj, g1, g2⟩ := e4 j hj
 obtain rfl := rBrn_rd.1 g1
 have g0 := g2 0 _ rfl
 have g1 := g2 1 _ rfl
 rw [show rBrn.size = 2 from rfl] at g0 g1
 rw [Nat.add_zero] at g0
 rw [← Nat.add_assoc] at g1
 exact ⟨g0, g1⟩
theorem brnCells_length (l : List Brn) : (brnCells l).length = l.length * 2 := by
 induction l with
 | nil => rfl
 | cons x l ih => simp only [brnCells, List.flatMap_cons, List.length_append, List.length_cons] at *; rw [ih]; simp [brn2]; omega
theorem brnCells_append (l m : List Brn) : brnCells (l ++ m) = brnCells l ++ brnCells m := by simp [brnCells]
structure OwnB (e : TypeId) (w : World) (base : Nat) (v : Value) (l : List Brn) : Prop where
 row : w.ownsRow base e 2 v l.length (brnCells l)
theorem OwnB.nil (e : TypeId) (w : World) (base : Nat) : OwnB e w base (.slice none 0 0) [] := ⟨World.ownsRow_nil w base e 2⟩
theorem OwnB.keep {e : TypeId} {w w' : World} {base : Nat} {v : Value} {l : List Brn} (h : OwnB e w base v l) (hk : ∀ b, base ≤ b → b < w.heap.size → w'.heap[b]? = w.heap[b]?) : OwnB e w' base v l := by
 refine ⟨⟨h.row.1, ?_⟩⟩
 rcases h.row.2 with h0 | ⟨g, cap, cur, rfl, g1, g2, g3⟩
 · exact .inl h0
 · exact .inr ⟨g, cap, cur, rfl, g1, by rw [hk g g1 (Array.getElem?_eq_some_iff.1 g2).1]; exact g2, g3⟩
theorem OwnB.keep1 {e : TypeId} {w w' : World} {base : Nat} {v : Value} {l : List Brn} (h : OwnB e w base v l) (hk : ∀ b, v.ownBlock = some b → w'.heap[b]? = w.heap[b]?) : OwnB e w' base v l := by
 refine ⟨⟨h.row.1, ?_⟩⟩
 rcases h.row.2 with h0 | ⟨g, cap, cur, rfl, g1, g2, g3⟩
 · exact .inl h0
 · exact .inr ⟨g, cap, cur, rfl, g1, by rw [hk g rfl]; exact g2, g3⟩
theorem OwnB.below {e : TypeId} {w w' : World} {base : Nat} {v : Value} {l : List Brn} (h : OwnB e w base v l) (k : Below w.heap.size w w') : OwnB e w' base v l := h.keep fun b _ hl => k.block b hl
theorem OwnB.mono {e : TypeId} {w : World} {base base' : Nat} {v : Value} {l : List Brn} (h : OwnB e w base v l) (hb : base' ≤ base) : OwnB e w base' v l := by
 refine ⟨⟨h.row.1, ?_⟩⟩
 rcases h.row.2 with h2 | ⟨g, cap, cur, hv, hg, r⟩
 · exact .inl h2
 · exact .inr ⟨g, cap, cur, hv, by omega, r⟩
theorem OwnB.slice {e : TypeId} {w : World} {base : Nat} {v : Value} {l : List Brn} (h : OwnB e w base v l) : ∃ a c, v = .slice a l.length c ∧ l.length ≤ c ∧ (a = none → c = 0) := by
 rcases h.row.2 with ⟨rfl, h0⟩ | ⟨g, cap, cur, rfl, g1, g2, g3, g4, g5, g6⟩
 · exact ⟨none, 0, by rw [h0], by omega, fun _ => rfl⟩
 · exact ⟨_, _, rfl, g3, fun e => by cases e⟩
theorem OwnB.rd {e : TypeId} {w : World} {base : Nat} {a : Option Addr} {n c : Nat} {l : List Brn} (h : OwnB e w base (.slice a n c) l) (hb : l.length ≤ 8796093021952) : rBrns.rd w (fun b => base ≤ b) [.slice a n c] l := by
 obtain ⟨a', c', e1, hr⟩ := rd_owned (A := rBrn) (hs := by decide) h.row (rBrns_all.2 rfl : rdAll rBrn w (fun b => base ≤ b) _ l) rfl (by show l.length * 16 ≤ _; omega) (fun b e => (h.row.lt b e).1)
 simp only [Value.slice.injEq] at e1
 obtain ⟨rfl, rfl, rfl⟩ := e1
 exact hr
theorem elem_brn : ElemOf Tryz.prog 109 133 rBrn := elemOf (z := .agg #[.int .u64 0, .int .i64 0]) Tryz.underlying109 (by kernel_rfl) rfl rfl rfl (by decide)
theorem brnCells_at : ∀ (l : List Brn) (j : Nat) (u : Value), (brnCells l)[j]? = some u → ∃ q, ∃ hq : q < l.length, ∃ r, j = q * 2 + r ∧ (brn2 l[q])[r]? = some u
 | [], j, u, h => by simp [brnCells] at h
 | x :: l, j, u, h => by
   rw [show brnCells (x :: l) = brn2 x ++ brnCells l from List.flatMap_cons] at h
   by_cases hj : j < 2
   · rw [List.getElem?_append_left (show j < 2 from hj)] at h
     exact ⟨0, by simp, j, by omega, h⟩
   · rw [List.getElem?_append_right (show 2 ≤ j by omega)] at h
     obtain ⟨q, hq, r, e, k⟩ := brnCells_at l (j - 2) u h
     exact ⟨q + 1, by simpa using hq, r, by omega, by simpa using k⟩
theorem rBrns_cells {w : World} {P : Nat → Prop} {ad : Addr} {n c : Nat} {l : List Brn} (h : rBrns.rd w P [.slice (some ad) n c] l) (hn : 0 < n) : ∀ j u, (brnCells l)[j]? = some u → w.cell? (ad.add j) = some u := by
 obtain ⟨b, off, e, -, -, hat⟩ := rBrns_at h hn
 simp only [Option.some.injEq] at e
 subst e
 intro j u hj
 obtain ⟨q, hq, r, rfl, k⟩ := brnCells_at l j u hj
 obtain ⟨c0, c1⟩ := hat q hq
 rw [Addr.add_lit, ← Nat.add_assoc]
 match r, k with
 | 0, k => simp only [brn2, List.getElem?_cons_zero, Option.some.injEq] at k; rw [← k]; exact c0
 | 1, k => simp only [brn2, List.getElem?_cons_succ, List.getElem?_cons_zero, Option.some.injEq] at k; rw [← k]; exact c1
 | r + 2, k => simp [brn2] at k
theorem OwnB.app {e : TypeId} {w : World} {base : Nat} {v : Value} {l m : List Brn} (h : w.ownsRow base e 2 v (l.length + m.length) (brnCells l ++ brnCells m)) : OwnB e w base v (l ++ m) :=
 ⟨by rw [brnCells_append, List.length_append]; exact h⟩
theorem run_append_brns {w : World} {base : Nat} {v : Value} {l : List Brn} (hown : OwnB 133 w base v l) {P : Nat → Prop} {a : Option Addr} {n c : Nat} {m : List Brn} (h : rBrns.rd w P [.slice a n c] m) (hb : l.length + n ≤ 1000000) (hbase : base ≤ w.heap.size) (ty : TypeId) :
 ∃ v' w', (Builtin.append_ #[109, 109] ty #[v, .slice a n c]).run Tryz.prog w = .ok v' w' ∧ OwnB 133 w' base v' (l ++ m) ∧ Grew w w' v v' := by
 obtain ⟨ht, i, z, hi, hz, hsize, hby, hzs, hpos⟩ := elem_brn
 obtain ⟨hl, hnc, hnil, -⟩ := rList_len h
 cases a with
 | none =>
   obtain rfl := hnil rfl
   obtain rfl : n = 0 := by omega
   obtain rfl : m = [] := List.length_eq_zero_iff.1 hl
   exact ⟨v, w, run_append_owned_none (P := Tryz.prog) (w := w) base 109 ty 133 i 2 ht hi v l.length (brnCells l) hown.row, by rw [List.append_nil]; exact hown, ⟨World.grownBy.refl _ _, fun b e => .inl e⟩⟩
 | some ad =>
   obtain ⟨v', w', hr, k1, k2, -, k4⟩ := run_append_own_at (P := Tryz.prog) w base 109 ty 133 i z 2 16 ht hi hz hsize hby hzs (by decide) v l.length (brnCells l) hown.row ad n c (brnCells m) (by rw [brnCells_length, hl])
    (fun j u hj => by
     by_cases h0 : 0 < n
     · exact rBrns_cells h h0 j u hj
     · obtain rfl : n = 0 := by omega
       obtain rfl : m = [] := List.length_eq_zero_iff.1 hl
       simp [brnCells] at hj)
    (fun u hu => by
     obtain ⟨x, hx, hux⟩ := List.mem_flatMap.1 hu
     exact rBrn.one (rBrn_rd.2 rfl : rBrn.rd w (fun _ => True) _ x) u hux) (by unfold maxLen; omega) (by omega) hbase
   refine ⟨v', w', hr, OwnB.app (by rw [hl]; exact k1), ⟨k2, fun b' e => ?_⟩⟩
   rcases k4 with k | k
   · exact .inl (k.symm.trans e)
   · exact .inr (by rw [e] at k; simp only [Option.some.injEq] at k; omega)
theorem OwnB.lit (e : TypeId) (w : World) (base : Nat) (hb : base ≤ w.heap.size) (x : Brn) :
 OwnB e (w.alloc (.cells #[.int .u64 (x.1.toNat : Int), .int .i64 x.2] e)) base (.slice (some ⟨w.heap.size, 0, none⟩) 1 1) [x] :=
 ⟨⟨rfl, .inr ⟨w.heap.size, 1, _, rfl, hb, heap_alloc_new w _, Nat.le_refl 1, by decide, rfl, rfl⟩⟩⟩
theorem OwnB.base_below {e : TypeId} {w w' : World} {base : Nat} {v v' : Value} {l : List Brn} (h : OwnB e w base v l) (hb : base ≤ w.heap.size) (g : Grew w w' v v') : Below base w w' :=
 (Below.refl base w).grown g.grown hb (fun k hk => (h.row.lt k hk).1)
theorem run_append_brn {w : World} {base : Nat} {v : Value} {l : List Brn} (hown : OwnB 133 w base v l) (x : Brn) (hb : l.length ≤ 1000000 - 1) (hbase : base ≤ w.heap.size) (ty : TypeId) :
 ∃ v' w', (Builtin.append_ #[109, 109] ty #[v, .slice (some ⟨w.heap.size, 0, none⟩) 1 1]).run Tryz.prog (w.alloc (.cells #[.int .u64 (x.1.toNat : Int), .int .i64 x.2] 133)) = .ok v' w' ∧ OwnB 133 w' base v' (l ++ [x]) ∧ Grew (w.alloc (.cells #[.int .u64 (x.1.toNat : Int), .int .i64 x.2] 133)) w' v v' :=
 run_append_brns (hown.below ((Below.refl _ _).alloc (Nat.le_refl _) _)) ((OwnB.lit 133 w w.heap.size (Nat.le_refl _) x).rd (by simp)) (by omega) (by simp; omega) ty
theorem OwnB.keptL {e : TypeId} {w w' : World} {base b : Nat} {v : Value} {l : List Brn} (h : OwnB e w base v l) (k : Kept (· ≠ b) w w') (hb : b < base) : OwnB e w' base v l :=
 h.keep1 fun g eg => k.block g (by have := (h.row.lt g eg).1; omega)
end Go.Proofs.YtkbmadoaomoojaaGreat
