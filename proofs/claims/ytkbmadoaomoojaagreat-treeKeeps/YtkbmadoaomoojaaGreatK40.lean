/-
  Facts that the proof rests on, part 41. Conditions: those that each of them names.
-/
import Derived.Deep.DeepCutAuto
import Derived.Deep.RegionHeldLaw
import Derived.Deep.RegionLaw
import Derived.Deep.RegionWith
import Derived.Lib.SliceRun
import Derived.Test.YtkbmadoaomoojaaGreatRows
import Derived.Test.YtkbmadoaomoojaaGreatK01
import Derived.Test.YtkbmadoaomoojaaGreatK02
import Derived.Test.YtkbmadoaomoojaaGreatK06
import Derived.Test.YtkbmadoaomoojaaGreatK22
import Derived.Test.YtkbmadoaomoojaaGreatK25
import Derived.Test.YtkbmadoaomoojaaGreatK28
import Derived.Test.YtkbmadoaomoojaaGreatK34
import Derived.Test.YtkbmadoaomoojaaGreatK38
import Derived.Test.YtkbmadoaomoojaaGreatK39
namespace Go.Proofs.YtkbmadoaomoojaaGreat
set_option maxRecDepth 20000
open Go.RowKit
set_option linter.unusedVariables false
theorem elem_octs : ElemOf Tryz.prog 53 5 rByte := elemOf (z := .int .u8 0) Tryz.underlying53 (by kernel_rfl) rfl rfl rfl (by decide)
set_option maxHeartbeats 600000 in
theorem clone_u (w : World) (x : Option Addr) (m d : Nat) (l : List UInt8) (hB : IsB w x m l) (hm : m ≤ 140737488355328) :
 Calls Tryz.prog 24 #[.slice x m d] w fun e w' => ∃ a c, e = .returned (.slice a m c) ∧ w'.ownsRow w.heap.size 5 1 (.slice a m c) m (cellsOf l) ∧ Below w.heap.size w w' := by
 cases x with
 | none =>
   obtain rfl : m = 0 := hB.2.1 rfl
   have hl : l = [] := List.length_eq_zero_iff.1 hB.1
   subst hl
   clear hB
   have heq : ∀ w, (binOp .eql 53 (.slice none 0 d) (.slice none 0 0)).run Tryz.prog w = .ok (.bool true) w := fun w => Lib.run_eql_slice_nil w 53 5 none 0 d 0 0 Tryz.underlying53
   go_enter Tryz.func24, Tryz.ntmps24
   go_wp2
   go_ret
   exact ⟨none, 0, rfl, World.ownsRow_nil _ _ _ _, Below.refl _ _⟩
 | some ad =>
   obtain ⟨ht, i, z, hi, hz, hsize, hby, hzs, hpos⟩ := elem_octs
   obtain ⟨w1, hw1, V1, b1, z1⟩ := boxedRow w 5 []
   have hown : w1.ownsRow w.heap.size 5 1 (.slice (some ⟨w.heap.size, 0, none⟩) 0 0) 0 [] := by
    rw [← hw1]
    exact World.ownsRow_made w _ 0 (Nat.le_refl _) (by unfold maxLen; omega) rfl
   have hB1 := hB.below b1
   obtain ⟨v', w', hr, k1, k2, -, k4⟩ := run_append_own_at (P := Tryz.prog) w1 w.heap.size 53 53 5 i z 1 1 ht hi hz hsize hby hzs (by decide) _ 0 [] hown ad m d (cellsOf l) (by simp [cellsOf, hB.1]) (fun j u hu => by
    have hj : j < l.length := by have := (List.getElem?_eq_some_iff.1 hu).1; simpa [cellsOf] using this
    have h := hB1.2.2 ad rfl j hj
    rw [h]
    simpa [cellsOf, hj] using hu) (fun u hu => by
    simp only [cellsOf, List.mem_map] at hu
    obtain ⟨y, -, rfl⟩ := hu
    rfl) (by unfold maxLen; omega) (by omega) (by omega)
   rw [Nat.zero_add, List.nil_append] at k1
   obtain ⟨a, c, rfl⟩ : ∃ a c, v' = .slice a m c := by
    rcases k1.2 with ⟨rfl, h0⟩ | ⟨g2, cap, cur, rfl, -⟩
    · exact ⟨none, 0, by rw [h0]⟩
    · exact ⟨_, _, rfl⟩
   have HO : Hid _ := k1
   have HR : Hid _ := hr
   have HB : Hid (Below w.heap.size w w') := by
    refine ⟨k2.os.trans b1.os, k2.tape.trans b1.tape, k2.output.trans b1.output, Nat.le_trans b1.size k2.size, fun b hb => (k2.block b (by omega) (fun e => ?_)).trans (b1.block b hb)⟩
    simp only [Value.ownBlock, Option.some.injEq] at e
    omega
   have heq : ∀ w, (binOp .eql 53 (.slice (some ad) m d) (.slice none 0 0)).run Tryz.prog w = .ok (.bool false) w := fun w => Lib.run_eql_slice_nil w 53 5 (some ad) m d 0 0 Tryz.underlying53
   clear hr k1 k2 k4 hown hB hB1 ht hi hz hsize hby hzs hpos V1 b1 z1
   go_enter Tryz.func24, Tryz.ntmps24
   go_wp2_with (at_builtin; refine Lib.wpList_append_run _ rfl _ _ _ _ rfl _ _ rfl rfl _ _ HR.out ?_)
   go_ret
   exact ⟨_, _, rfl, HO.out, HB.out⟩
theorem ok_iff {L : List (List UInt8)} {W : List Act} {cp : Int} : Hst.ok (L, W, cp) = true ↔ (1 ≤ cp ∧ cp ≤ 65536 ∧ (L.length : Int) ≤ cp ∧ W.length ≤ 4096) ∧ (∀ j (h : j < L.length), L[j].length = 64) ∧ ∀ j (h : j < W.length), Hst.actOk cp W[j] = true := by
 simp only [Hst.ok, Hst.headOk, Bool.and_eq_true, decide_eq_true_eq, List.all_eq_true]
 constructor
 · rintro ⟨⟨⟨⟨⟨h1, h2⟩, h3⟩, h4⟩, h5⟩, h6⟩
   exact ⟨⟨h1, h2, h3, h4⟩, fun j h => h5 _ (List.getElem_mem h), fun j h => h6 _ (List.getElem_mem h)⟩
 · rintro ⟨⟨h1, h2, h3, h4⟩, h5, h6⟩
   refine ⟨⟨⟨⟨⟨h1, h2⟩, h3⟩, h4⟩, fun x hx => ?_⟩, fun x hx => ?_⟩
   · obtain ⟨j, h, rfl⟩ := List.getElem_of_mem hx; exact h5 j h
   · obtain ⟨j, h, rfl⟩ := List.getElem_of_mem hx; exact h6 j h
end Go.Proofs.YtkbmadoaomoojaaGreat
namespace Go.Proofs.YtkbmadoaomoojaaGreat
set_option maxRecDepth 20000
namespace Hst
def secOk (cp : Int) (l : List (List UInt8)) : Prop := (l.length : Int) ≤ cp ∧ ∀ b ∈ l, b.length = 64
theorem ok_parts {s : Host} (h : ok s = true) : 1 ≤ s.2.2 ∧ s.2.2 ≤ 65536 ∧ s.2.1.length ≤ 4096 ∧ secOk s.2.2 s.1 ∧ ∀ a ∈ s.2.1, actOk s.2.2 a = true := by
 simp only [ok, headOk, Bool.and_eq_true, decide_eq_true_eq, List.all_eq_true] at h
 exact ⟨h.1.1.1.1.1, h.1.1.1.1.2, h.1.1.2, ⟨h.1.1.1.2, h.1.2⟩, h.2⟩
end Hst
end Go.Proofs.YtkbmadoaomoojaaGreat
namespace Go.Proofs.YtkbmadoaomoojaaGreat
set_option maxRecDepth 20000
open Go.RowKit
set_option linter.unusedVariables false
def lay (l : List UInt8) : List UInt8 := l.take 64 ++ List.replicate (64 - l.length) 0
theorem info_bytes : (Tryz.prog.info? 53).map (fun i => (i.zero, i.size, i.bytes)) = some (some (.slice none 0 0), 1, 24) := by kernel_rfl
theorem rBytes_new2 {w w' : World} {base : Nat} {v : Value} {x : Option Addr} {m d : Nat} {l : List UInt8} (h : w'.ownsRow w.heap.size 5 1 (.slice x m d) m (cellsOf l)) (hm : m ≤ 140737488351232) (hb : base ≤ w.heap.size) (hv : ∀ b, v.ownBlock = some b → b < w.heap.size) : rBytes.rd w' (Lie w' base v) [.slice x m d] l := by
 rcases h.2 with ⟨e, h0⟩ | ⟨g, cap, cur, e, g1, g2, g3, g4, g5, g6⟩
 · simp only [Value.slice.injEq] at e
   obtain ⟨rfl, rfl, rfl⟩ := e
   have hl : l = [] := by
    have := h.1
    simpa [cellsOf] using this
   rw [hl]
   exact rBytes_nil _ _
 · have hr := rBytes_owned (base := w.heap.size) h (by omega)
   simp only [Value.slice.injEq] at e
   obtain ⟨rfl, -, rfl⟩ := e
   obtain ⟨a', n', c', e, q1, q2, q3, q4, q5⟩ := hr
   simp only [List.cons.injEq, Value.slice.injEq, and_true] at e
   obtain ⟨rfl, rfl, rfl⟩ := e
   refine ⟨_, _, _, rfl, q1, q2, q3, q4, fun y hy j hj => ?_⟩
   simp only [Option.some.injEq] at hy
   subst hy
   obtain ⟨p1, cj, p2, p3⟩ := q5 _ rfl j hj
   exact ⟨⟨by show base ≤ g; omega, ⟨_, _, g2⟩, fun e => by have := hv g e; omega⟩, cj, p2, p3⟩
theorem Pgd.made {w : World} {g base n : Nat} (h : Row w g 53 (List.replicate n (.slice none 0 0))) (hb : base ≤ g) (hn : n ≤ 1000000) : Pgd w base (.slice (some ⟨g, 0, none⟩) n n) (List.replicate n []) := by
 refine ⟨List.replicate n (.slice none 0 0), ⟨by simp, .inr ⟨g, n, (List.replicate n (.slice none 0 0)).toArray, by simp, hb, h.eq, by simp, by unfold maxLen; omega, by simp, by simp⟩⟩, ?_⟩
 exact Each.replicate n (rBytes_nil _ _)
set_option maxHeartbeats 1000000 in
theorem tcopied_u (w : World) (P : Nat → Prop) (a : Option Addr) (n c : Nat) (s : Pgs) (hR : rSectors.rd w P [.slice a n c] s) (hl : n ≤ 2048) :
 Calls Tryz.prog 30 #[.slice a n c] w fun e w' => e = .returned (.slice (some ⟨w.heap.size, 0, none⟩) n n) ∧ Pgd w' w.heap.size (.slice (some ⟨w.heap.size, 0, none⟩) n n) s ∧ Below w.heap.size w w' := by
 have HR : Hid _ := hR
 have HN : Hid (s.length = n) := (rSectors_len hR).1
 clear hR
 go_enter Tryz.func30, Tryz.ntmps30
 go_wp2_with (at_make; refine make_row _ rfl _ _ 22 rfl 53 (.slice none 0 0) 24 Tryz.underlying22 info_bytes rfl n _ rfl rfl rfl (by omega) (by omega) ?_; intro w2 HRw b2 z2)
 have HP0 : Hid (Pgd w2 w.heap.size (.slice (some ⟨w.heap.size, 0, none⟩) n n) (s.take 0 ++ List.replicate (n - 0) [])) := Pgd.made HRw.out (Nat.le_refl _) (by omega)
 have HB2 : Hid _ := b2
 clear HRw b2 z2
 go_loopw [11] (fun i wr => ∃ k : Nat, k ≤ n ∧ i = .int .i64 k ∧ Hid (Pgd wr w.heap.size (.slice (some ⟨w.heap.size, 0, none⟩) n n) (s.take k ++ List.replicate (n - k) [])) ∧ Hid (Below w.heap.size w wr)) (fun i _ => n - (intOf i).toNat)
 case atStart => exact ⟨0, Nat.zero_le _, rfl, HP0, HB2⟩
 case round =>
  obtain ⟨k, hk, rfl, HPk, HBk⟩ := hrel
  clear HP0 HB2
  by_cases hlt : k < n
  · obtain ⟨g, off, rfl, -, hgl, hat⟩ := rLists_at (Rep.below HR.out HBk.out) (by omega)
    have hkl : k < s.length := by rw [HN.out]; exact hlt
    obtain ⟨x, l, e, hx, hle, hcell⟩ := hat k hkl
    have HX : Hid _ := hx
    have HNX : Hid ((s.take k ++ List.replicate (n - k) []).set k s[k] = s.take (k + 1) ++ List.replicate (n - (k + 1)) []) := by
     unfold Hid
     rw [List.set_append_right _ _ (by rw [List.length_take]; omega), List.length_take, show k - min k s.length = 0 by omega, List.take_succ_eq_append_getElem hkl, show n - k = (n - (k + 1)) + 1 by omega, List.replicate_succ, List.set_cons_zero, List.append_assoc]
     rfl
    have HLn : Hid ((s.take k ++ List.replicate (n - k) ([] : List UInt8)).length = n) := by unfold Hid; rw [List.length_append, List.length_take, List.length_replicate]; omega
    obtain ⟨gp, cc, he, -, hfz⟩ := HPk.out.some_ (i := k) (by rw [HLn.out]; exact hlt)
    clear hat hx he
    generalize s[k] = X at *
    go_wp2_with fail
    go_at_call 24
    refine (clone_u _ x l e X (rBytes_isB HX.out).1 (by have := (rBytes_isB HX.out).2.2.2; omega)).mono ?_
    rintro e w5 ⟨ya, yc, rfl, ho, b5⟩
    have HP5 : Hid (Pgd w5 w.heap.size (.slice (some ⟨w.heap.size, 0, none⟩) n n) (s.take k ++ List.replicate (n - k) [])) := HPk.out.below b5
    have HY : Hid (rBytes.rd w5 (Lie w5 w.heap.size (.slice (some ⟨w.heap.size, 0, none⟩) n n)) [.slice ya l yc] X) := rBytes_new2 ho (by have := (rBytes_isB HX.out).2.2.2; omega) HBk.out.size (fun b hb => (HPk.out.lt b hb).2)
    have HP6 : Hid (Pgd (w5.setCell ⟨w.heap.size, k, none⟩ (.slice ya l yc)) w.heap.size (.slice (some ⟨w.heap.size, 0, none⟩) n n) (s.take (k + 1) ++ List.replicate (n - (k + 1)) [])) := by
     unfold Hid
     rw [← HNX.out]
     exact HP5.out.set (by rw [HLn.out]; exact hlt) HY.out
    obtain ⟨gp2, cc2, he2, ⟨x2, m2, d2, hc2⟩, hfz2⟩ := HP5.out.some_ (i := k) (by rw [HLn.out]; exact hlt)
    simp only [Value.slice.injEq, Option.some.injEq, Addr.mk.injEq, and_true] at he2
    obtain ⟨rfl, -, -⟩ := he2
    have HB6 : Hid (Below w.heap.size w (w5.setCell ⟨w.heap.size, k, none⟩ (.slice ya l yc))) := (on HBk.out b5).setCell (p := ⟨w.heap.size, k, none⟩) (Nat.le_refl _) _
    have hk0 : (0 : Int) ≤ (k : Int) := Int.natCast_nonneg _
    have hk1 : (k : Int) < (n : Int) := by omega
    clear ho b5 hfz hcell hgl HX HY HP5 HPk
    go_wp2
    go_roundw
    case rel => exact ⟨k + 1, by omega, by go_num, HP6, HB6⟩
    case measure => simp [intOf]; omega
  · obtain rfl : k = n := by omega
    have HPn : Hid (Pgd wr w.heap.size (.slice (some ⟨w.heap.size, 0, none⟩) k k) s) := by
     have h := HPk.out
     rw [Nat.sub_self, List.replicate_zero, List.append_nil, List.take_of_length_le (by rw [HN.out]; exact Nat.le_refl _)] at h
     exact h
    clear HPk
    go_wp2
    go_ret
    exact ⟨rfl, HPn.out, HBk.out⟩
namespace Tr
theorem turned_few {T : List Itm → List Itm} {key : UInt64} (hT : ∀ l, l.length ≤ 3 → (T l).length ≤ 4) {s s' : Pgs} {root : Int} {d : Nat} {cn : Cnt} (hl : s.length ≤ 2048) (h : turned T key s root d = .ok (s', cn)) : Chg s' cn := by
 unfold turned at h
 by_cases hr : root = 0
 · rw [if_pos hr] at h
   cases h
   have := hT [] (by simp)
   exact ⟨by unfold csize; simp only [List.length_nil]; omega, (fun b hb => by cases hb), hl, .inr rfl⟩
 · rw [if_neg hr] at h
   exact change_few hT d hl h
theorem Chg.fuel {s : Pgs} {cn : Cnt} (h : Chg s cn) : Fuel 5 cn := ⟨h.one, by have := h.few; omega, by omega, fun _ => by omega⟩
end Tr
def ChdDone (R : Except Int (Pgs × Int)) (g base bt : Nat) (v kv tv : Value) (w : World) (e : Ending) (w' : World) : Prop :=
 (∀ x, R = .error x → e = broke x ∧ Turn (WS g v) w w') ∧ (∀ s' q, R = .ok (s', q) → e = .returned (.tuple #[]) ∧ ∃ v' w1, Wr w1 g base v' s' kv tv ∧ WTurn g v w v' w1 ∧ Row w' bt 3 [.int .i64 q] ∧ Kept (· ≠ bt) w1 w')
theorem ChdDone.no {R : Except Int (Pgs × Int)} {g base bt : Nat} {v kv tv : Value} {w w' : World} {x : Int} (h : R = .error x) (t : Turn (WS g v) w w') : ChdDone R g base bt v kv tv w (broke x) w' :=
 ⟨(fun y hy => by rw [h] at hy; cases hy; exact ⟨rfl, t⟩), (fun s' q hq => by rw [h] at hq; cases hq)⟩
set_option maxHeartbeats 2000000 in
theorem changedFnF_u {T : List Itm → List Itm} {key : UInt64} {f : Nat} {bs : Array Value} {B : Nat} {J : World → Prop} (hT : Turner T f bs B J) (w : World) (g base : Nat) (v : Value) (s : Pgs) (hW : Wr w g base v s (.int .u64 (key.toNat : Int)) (.func (.func f) #[] bs)) (hJ : J w) (hB : B ≤ g ∧ B ≤ base) (root : Int) (h0 : 0 ≤ root) (h1 : root ≤ 2049) (hlf : root ≠ 0 → ∃ nd, Tr.nodeE s root = .ok nd ∧ nd.2 = []) (hne : Tr.changed T key s root 16 ≠ .error 9)
 (bw br bt : Nat) (Vw : Row w bw 105 [.pointer (some ⟨g, 0, none⟩)]) (Vr : Row w br 3 [.int .i64 root]) (Vt : Row w bt 3 [.int .i64 0]) (hrt : br ≠ bt) :
 Calls Tryz.prog 51 #[.pointer (some ⟨bw, 0, none⟩), .pointer (some ⟨br, 0, none⟩), .pointer (some ⟨bt, 0, none⟩)] w fun e w' => ChdDone (Tr.changed T key s root 16) g base bt v (.int .u64 (key.toNat : Int)) (.func (.func f) #[] bs) w e w' := by
 have HT : Hid _ := hT
 have HW : Hid _ := hW
 have HVw : Hid _ := Vw
 have HVr : Hid _ := Vr
 have HVt : Hid _ := Vt
 have HRT : Hid (br ≠ bt ∧ bw ≠ bt) := ⟨hrt, fun e => by subst e; have h1 := Vw.eq; rw [Vt.eq] at h1; cases h1⟩
 have HTu : Hid (Tr.turned T key s root 16 ≠ .error 9) := fun e => hne (by unfold Tr.changed; rw [e])
 have HCa : Hid (∀ W, Below w.heap.size w W → Calls Tryz.prog 53 #[.pointer (some ⟨g, 0, none⟩), .int .i64 root] W fun e w' => ChgDone (Tr.turned T key s root 16) g base v (.int .u64 (key.toNat : Int)) (.func (.func f) #[] bs) W e w') := fun W b => turnedF_u hT W g base v s (hW.below b) (hT.stay hJ ((WTurn.of (g := g) (v := v) b).under hW hB)) hB root h0 h1 hlf HTu.out
 have HSee : Hid (∀ W', Turn (WS g v) w W' → W'.cell? ⟨bw, 0, none⟩ = some (.pointer (some ⟨g, 0, none⟩)) ∧ W'.cell? ⟨br, 0, none⟩ = some (.int .i64 root)) := fun W' t' => ⟨(HVw.out.tk (TK.turn HW.out t') (by decide)).cell (j := 0) rfl, (HVr.out.tk (TK.turn HW.out t') (by decide)).cell (j := 0) rfl⟩
 have HRd : Hid (∀ x, Tr.turned T key s root 16 = .error x → Tr.changed T key s root 16 = .error x) := fun x e => by unfold Tr.changed; rw [e]
 have HRk : Hid (∀ s2 cn, Tr.turned T key s root 16 = .ok (s2, cn) → Tr.changed T key s root 16 = Tr.rootOf 5 s2 cn) := fun s2 cn e => by unfold Tr.changed; rw [e]
 clear hT hW hJ hB h0 h1 hne Vw Vr Vt hrt
 go_enter Tryz.func51, Tryz.ntmps51
 go_wp2_with fail
 refine wp_region_held_drew (S := (fun w' : World => w'.cell? ⟨bw, 0, none⟩ = some (.pointer (some ⟨g, 0, none⟩)) ∧ w'.cell? ⟨br, 0, none⟩ = some (.int .i64 root))) (by kernel_rfl) (HSee.out _ (Turn.of (Below.refl _ _).drew)) (fun hH => ?_)
 refine tkM 0 _ rfl rfl ?_; simp only [sz, ss]
 refine tkM 1 _ rfl rfl ?_; simp only [sz, ss]
 refine tkM 2 _ rfl rfl ?_; simp only [sz, ss]
 refine r1L 3 rfl fun K hK => ?_
 · go_simp
   go_at_call 53
   refine Calls.mono (HCa.out _ (Below.refl _ _).drew) ?_
   rintro e w2 hd
   rcases ht : Tr.turned T key s root 16 with x | ⟨s2, cn⟩
   · obtain ⟨rfl, t2⟩ := hd.1 x ht
     exact ⟨rfl, ChdDone.no (HRd.out x ht) (Turn.trans (Turn.of (Below.refl _ _).drew) t2)⟩
   obtain ⟨ca, n, c, da, n', c', v2, rfl, hC2, hW2, t2'⟩ := hd.2 s2 cn ht
   have t2 : WTurn g v w v2 w2 := (WTurn.of (Below.refl _ _).drew).trans t2'
   have HRo : Hid (Tr.changed T key s root 16 = Tr.rootOf 5 s2 cn) := HRk.out s2 cn ht
   have HC2 : Hid _ := hC2
   have W2 : Hid _ := hW2
   have HT2 : Hid _ := t2
   have HCh : Hid (Tr.Chg s2 cn) := Tr.turned_few HT.out.few HW.out.few ht
   have HN2 : Hid (n = cn.1.length ∧ n' = cn.2.length) := ⟨by obtain ⟨x, y, e, -⟩ := hC2.items.slice; simp only [Value.slice.injEq] at e; exact e.2.1, by obtain ⟨x, y, e, -⟩ := hC2.kids.slice; simp only [Value.slice.injEq] at e; exact e.2.1⟩
   have HTK : Hid (TK [107, 53] w w2) := TK.turn HW.out t2.turn
   have hS2 := HSee.out _ t2.turn
   clear hd hC2 hW2 t2 t2' ht
   go_simp
   refine hK.out _ _ ?_ (fun hH => ?_)
   · try dsimp only
     exact hS2
   clear hK K
   refine r1L 4 rfl fun K hK => ?_
   · go_simp
     go_at_call 52
     refine Calls.mono (rootOf_u w2 g base v2 s2 (.int .u64 (key.toNat : Int)) (.func (.func f) #[] bs) W2.out ca da n c n' c' cn _ HC2.out (fun b hb => HCh.out.pages b hb) 5 HCh.out.fuel (by have := HN2.out; have h := HCh.out.few; unfold Tr.csize at h; omega) (by have := HN2.out; have h := HCh.out.few; unfold Tr.csize at h; omega)) ?_
     rintro e w3 hd
     rcases hro : Tr.rootOf 5 s2 cn with x | ⟨s3, q⟩
     · obtain ⟨rfl, t3⟩ := hd.1 x hro
       exact ⟨rfl, ChdDone.no (HRo.out.trans hro) (HT2.out.trans (WTurn.mk t3 (v' := v2) (fun b e => .inl e))).turn⟩
     obtain ⟨rfl, v3, hW3, t3⟩ := hd.2 s3 q hro
     have HRq : Hid (Tr.changed T key s root 16 = .ok (s3, q)) := HRo.out.trans hro
     have W3 : Hid _ := hW3
     have HT3 : Hid (WTurn g v w v3 w3) := HT2.out.trans t3
     have V3 : Hid (Row w3 bt 3 [.int .i64 0]) := (HVt.out.tk HTK.out (by decide)).tk (TK.turn W2.out t3.turn) (by decide)
     have hS3 := HSee.out _ HT3.out.turn
     have HS4 : Hid (∀ u, (w3.setCell ⟨bt, 0, none⟩ u).cell? ⟨bw, 0, none⟩ = some (.pointer (some ⟨g, 0, none⟩)) ∧ (w3.setCell ⟨bt, 0, none⟩ u).cell? ⟨br, 0, none⟩ = some (.int .i64 root)) := fun u => by
      have k1 : Kept (· ≠ bt) w3 (w3.setCell ⟨bt, 0, none⟩ u) := (Kept.refl _ w3).setCell (p := ⟨bt, 0, none⟩) (fun h => h rfl) u
      have s1' := HSee.out _ HT3.out.turn
      exact ⟨k1.cell (p := ⟨bw, 0, none⟩) HRT.out.2 s1'.1, k1.cell (p := ⟨br, 0, none⟩) HRT.out.1 s1'.2⟩
     have g0 := V3.out.cell (j := 0) rfl
     have g2 := V3.out.frozen 0
     clear hd hW3 t3 hro
     go_simp
     refine hK.out _ _ ?_ (fun hH => ?_)
     · try dsimp only
       exact hS3
     clear hK K
     refine r1L 5 rfl fun K hK => ?_
     · go_simp
       refine hK.out _ _ ?_ (fun hH => ?_)
       · try dsimp only
         exact HS4.out _
       clear hK K
       refine wpAnyH_done (by kernel_rfl) ?_ _
       clear hH
       go_wp2
       go_end0
       exact ⟨(fun x h => by rw [HRq.out] at h; cases h), (fun s' q' h => by rw [HRq.out] at h; cases h; exact ⟨rfl, v3, w3, W3.out, HT3.out, V3.out.set 0 _, (Kept.refl _ w3).setCell (p := ⟨bt, 0, none⟩) (fun h => h rfl) _⟩)⟩
theorem TK.turn1 {w w' : World} {b : Nat} {t : TypeId} {xs : List Value} (hr : Row w b t xs) (k : Turn [b] w w') : TK [t] w w' :=
 ⟨k.size, fun {x} _ _ _ e hn => k.block x ⟨(Array.getElem?_eq_some_iff.1 e).1, fun e' => by simp only [List.mem_singleton] at e'; subst e'; rw [hr.eq] at e; cases e; exact hn (by simp)⟩⟩
theorem one_ret3 {Pr : Program} {fn : Func} {p q r : Tmp} {ty t : TypeId} {tmps : Array Value} {w2 : World} {b : Nat} {d : TypeDesc} {x0 : Value} (V : Row w2 b t [x0])
 (u0 : Value) (h : fn.results = #[.cell p ty, .tmp q, .tmp r]) (hp : tmps.getD p undef = .pointer (some ⟨b, 0, none⟩))
 (hu : Pr.underlying ty = some d) (hd : d.isRow = true) (hi : (Pr.info? ty).map (·.size) = some 1) {R : Ending → World → Prop}
 (hR : ∀ w', Kept (· ≠ b) w2 w' → R (.returned (.tuple #[.agg #[u0], tmps.getD q undef, tmps.getD r undef])) w') :
 bodyPost Pr fn R .ret { tmps := tmps, defers := [] } (w2.setCell ⟨b, 0, none⟩ u0) := by
 have hr := results_rowtt (Pr := Pr) (fn := fn) h hp (V.set 0 u0) hu hd hi
 exact bodyPost_ret hr rfl (hR _ ((Kept.refl _ w2).setCell (p := ⟨b, 0, none⟩) (fun h => h rfl) u0))
def ChangedDone (R : Except Int (Pgs × Int)) (w : World) (e : Ending) (w' : World) : Prop :=
 Below w.heap.size w w' ∧ (∀ x, R = .error x → e = .returned (.tuple #[.agg #[.slice none 0 0], .int .i64 0, .int .i64 x])) ∧ (∀ s' q, R = .ok (s', q) → ∃ a c, e = .returned (.tuple #[.agg #[.slice a s'.length c], .int .i64 q, .int .i64 0]) ∧ rSectors.rd w' (fun b => w.heap.size ≤ b) [.slice a s'.length c] s' ∧ s'.length ≤ 2048)
set_option maxHeartbeats 4000000 in
theorem changedF_u {T : List Itm → List Itm} {key : UInt64} {f : Nat} {bs : Array Value} {B : Nat} {J : World → Prop} (hT : Turner T f bs B J) (w : World) (P : Nat → Prop) (pa : Option Addr) (pc : Nat) (s : Pgs) (hR : rSectors.rd w P [.slice pa s.length pc] s) (hl : s.length ≤ 2048) (hJ : J w) (hB : B ≤ w.heap.size) (root : Int) (h0 : 0 ≤ root) (h1 : root ≤ 2049) (hlf : root ≠ 0 → ∃ nd, Tr.nodeE s root = .ok nd ∧ nd.2 = []) (h51 : ∀ x, Tr.changed T key s root 16 = .error x → x = 51) :
 Calls Tryz.prog 31 #[.agg #[.slice pa s.length pc], .int .i64 root, (.int .u64 (key.toNat : Int)), (.func (.func f) #[] bs)] w fun e w' => ChangedDone (Tr.changed T key s root 16) w e w' := by
 have HT : Hid _ := hT
 have HLF : Hid _ := hlf
 clear hlf
 obtain ⟨wa, hwa, Va, ba, za⟩ := boxedRow w 26 [.slice pa s.length pc]
 obtain ⟨wb, hwb, Vb, bb, zb⟩ := boxedRow wa 3 [.int .i64 root]
 obtain ⟨wc, hwc, Vc, bc, zc⟩ := boxedRow wb 26 [.slice none 0 0]
 have a0 := ((Va.below bb).below bc).cell (j := 0) rfl
 have HVb : Hid (Row wc wa.heap.size 3 [.int .i64 root]) := Vb.below bc
 have HVc : Hid _ := Vc
 have BC : Hid (Below w.heap.size w wc) := on (on ba bb) bc
 have HRc : Hid (rSectors.rd wc P [.slice pa s.length pc] s) := Rep.below hR BC.out
 have HZ : Hid (wa.heap.size = w.heap.size + 1 ∧ wb.heap.size = w.heap.size + 2 ∧ wc.heap.size = w.heap.size + 3) := ⟨za, by omega, by omega⟩
 have HJ : Hid (J w) := hJ
 have HB : Hid (B ≤ w.heap.size) := hB
 have H51 : Hid (∀ x, Tr.changed T key s root 16 = .error x → x = 51) := h51
 have hmf : ∀ (fn : Fn) (first cap : Array Value) (w : World), (Instr.makeFunc fn first cap).run Tryz.prog w = .ok (.func fn first cap) w := fun _ _ _ _ => rfl
 clear hT hR Va Vb Vc ba bb bc za zb zc hJ hB h51
 go_enter Tryz.func31, Tryz.ntmps31
 go_wp2_with fail
 go_at_call 30
 refine (tcopied_u wc _ pa s.length pc s HRc.out hl).mono ?_
 rintro e w1 ⟨rfl, hPg, b1⟩
 obtain ⟨w2, hw2, V2, b2, z2⟩ := boxedRow w1 107 [.slice (some ⟨wc.heap.size, 0, none⟩) s.length s.length, (.int .u64 (key.toNat : Int)), (.func (.func f) #[] bs)]
 obtain ⟨w3, hw3, V3, b3, z3⟩ := boxedRow w2 105 [.pointer (some ⟨w1.heap.size, 0, none⟩)]
 obtain ⟨w4r, hw4r, V4r, b4r, z4r⟩ := boxedRow w3 3 [.int .i64 0]
 have t0 := V4r.cell (j := 0) rfl
 have tf := V4r.frozen 0
 obtain ⟨w4, hw4⟩ : ∃ w4, w4r.setCell ⟨w3.heap.size, 0, none⟩ (.int .i64 0) = w4 := ⟨_, rfl⟩
 have V4 : Row w4 w3.heap.size 3 [.int .i64 0] := by rw [← hw4]; exact V4r.set 0 _
 have b4 : Below w3.heap.size w3 w4 := by rw [← hw4]; exact b4r.setCell (p := ⟨w3.heap.size, 0, none⟩) (Nat.le_refl _) _
 have z4 : w4.heap.size = w3.heap.size + 1 := by rw [← hw4]; simp [World.setCell]; exact z4r
 have b14 : Below w1.heap.size w1 w4 := on (on b2 b3) b4
 have B4 : Hid (Below w.heap.size w w4) := on (on BC.out b1) b14
 have W4 : Hid (Wr w4 w1.heap.size wc.heap.size (.slice (some ⟨wc.heap.size, 0, none⟩) s.length s.length) s (.int .u64 (key.toNat : Int)) (.func (.func f) #[] bs)) := ⟨(V2.below b3).below b4, hPg.below b14, hl, by have := b1.size; have := b14.size; omega⟩
 have HVw : Hid (Row w4 w2.heap.size 105 [.pointer (some ⟨w1.heap.size, 0, none⟩)]) := V3.below b4
 have HVt : Hid _ := V4
 have HVr : Hid (Row w4 wa.heap.size 3 [.int .i64 root]) := HVb.out.below (on b1 b14)
 have HVs : Hid (Row w4 wb.heap.size 26 [.slice none 0 0]) := HVc.out.below (on b1 b14)
 have HZ4 : Hid (wc.heap.size ≤ w1.heap.size ∧ w2.heap.size = w1.heap.size + 1 ∧ w3.heap.size = w1.heap.size + 2 ∧ w4.heap.size = w1.heap.size + 3) := ⟨b1.size, z2, by omega, by omega⟩
 have HJ4 : Hid (J w4) := HT.out.stay HJ.out (B4.out.mono HB.out)
 clear hPg b1 V2 V3 V4 b2 b3 b4 z2 z3 z4 b14 HVb HVc HRc a0 V4r b4r z4r
 go_wp2_with fail
 go_at_call 43
 refine (refusal_u w4 51 #[.pointer (some ⟨w2.heap.size, 0, none⟩), .pointer (some ⟨wa.heap.size, 0, none⟩), .pointer (some ⟨w3.heap.size, 0, none⟩)] (fun args w => enters_of Tryz.func51 (by kernel_rfl) rfl args w)
  (fun x w' => ∃ w0, w4.alloc (.cells #[.int .i64 0] 28) = w0 ∧ (Tr.changed T key s root 16 = .error x ∧ Turn (WS w1.heap.size (.slice (some ⟨wc.heap.size, 0, none⟩) s.length s.length)) w0 w' ∨ ∃ s' q v' wm, x = 0 ∧ Tr.changed T key s root 16 = .ok (s', q) ∧ Wr wm w1.heap.size wc.heap.size v' s' (.int .u64 (key.toNat : Int)) (.func (.func f) #[] bs) ∧ WTurn w1.heap.size (.slice (some ⟨wc.heap.size, 0, none⟩) s.length s.length) w0 v' wm ∧ Row w' w3.heap.size 3 [.int .i64 q] ∧ Kept (· ≠ w3.heap.size) wm w')) ?_).mono ?_
 · intro w0 hw0
   have b0 : Below w4.heap.size w4 w0 := by rw [← hw0]; exact (Below.refl _ _).alloc (Nat.le_refl _) _
   have e0 : Row w0 w4.heap.size 28 [.int .i64 0] := by rw [← hw0]; exact row_new _ _ _
   refine (changedFnF_u HT.out w0 w1.heap.size wc.heap.size _ s (W4.out.below b0) (HT.out.stay HJ4.out ((b0.mono B4.out.size).mono HB.out)) ⟨by have := HB.out; have := HZ.out; have := HZ4.out; omega, by have := HB.out; have := HZ.out; omega⟩ root h0 h1 HLF.out (fun h => by have := H51.out _ h; omega) w2.heap.size wa.heap.size w3.heap.size (HVw.out.below b0) (HVr.out.below b0) (HVt.out.below b0) (by have := HZ.out; have := HZ4.out; omega)).mono ?_
   rintro e w' hd
   rcases hr : Tr.changed T key s root 16 with x | ⟨s', q⟩
   · obtain ⟨rfl, t⟩ := hd.1 x hr
     exact ⟨x, .inr rfl, (e0.tk (TK.turn (W4.out.below b0) t) (by decide)).eq.trans e0.eq.symm, t.size, w0, hw0, .inl ⟨rfl, t⟩⟩
   · obtain ⟨rfl, v', wm, k1, k2, k3, k4⟩ := hd.2 s' q hr
     have e1 := e0.tk (TK.turn (W4.out.below b0) k2.turn) (by decide)
     have tm := (HVt.out.below b0).tk (TK.turn (W4.out.below b0) k2.turn) (by decide)
     have e2 := e1.tk (TK.box tm k4) (by decide)
     exact ⟨0, .inl ⟨rfl, rfl⟩, e2.eq.trans e0.eq.symm, Nat.le_trans k2.turn.size k4.size, w0, hw0, .inr ⟨s', q, v', wm, rfl, rfl, k1, k2, k3, k4⟩⟩
 · rintro e w5 ⟨x, wn, rfl, ⟨w0, hw0, hx⟩, t5⟩
   have b0 : Below w4.heap.size w4 w0 := by rw [← hw0]; exact (Below.refl _ _).alloc (Nat.le_refl _) _
   have e0 : Row w0 w4.heap.size 28 [.int .i64 0] := by rw [← hw0]; exact row_new _ _ _
   have W0 := W4.out.below b0
   rcases hx with ⟨hr, t⟩ | ⟨s', q, v', wm, rfl, hr, k1, k2, k3, k4⟩
   · obtain rfl := H51.out x hr
     have en := e0.tk (TK.turn W0 t) (by decide)
     have Vs : Hid (Row w5 wb.heap.size 26 [.slice none 0 0]) := ((HVs.out.below b0).tk (TK.turn W0 t) (by decide)).tk (TK.turn1 en t5) (by decide)
     have hlow : Below w.heap.size w0 wn := t.below (by have := B4.out.size; have := b0.size; omega) (fun b hb => by
      have := HZ.out; have := HZ4.out
      rcases mem_WS.1 hb with rfl | e
      · omega
      · cases e; show w.heap.size ≤ wc.heap.size; omega)
     have B5 : Hid (Below w.heap.size w w5) := ((B4.out.trans (b0.mono B4.out.size)).trans hlow).trans (t5.below (by have := B4.out.size; have := b0.size; have := t.size; omega) (fun b hb => by have := B4.out.size; simp only [List.mem_singleton] at hb; omega))
     have HE : Hid _ := hr
     have g0 := Vs.out.cell (j := 0) rfl
     have g2 := Vs.out.frozen 0
     clear t5 hr t en hlow e0 W0 b0 hw0 hw2 hw3 hw4 hw4r t0 tf hwa hwb hwc
     go_wp2
     exact one_ret3 Vs.out _ rfl rfl Tryz.underlying26 rfl (by kernel_rfl) (fun w' k' => ⟨Kept.belowOf B5.out k' (by have := HZ.out; omega), (fun x h => by rw [HE.out] at h; cases h; rfl), (fun s' q h => by rw [HE.out] at h; cases h)⟩)
   · have tm := (HVt.out.below b0).tk (TK.turn W0 k2.turn) (by decide)
     have en := (e0.tk (TK.turn W0 k2.turn) (by decide)).tk (TK.box tm k4) (by decide)
     have tkA : ∀ {b : Nat} {t : TypeId} {xs : List Value}, Row w4 b t xs → t ∉ [107, 53] → t ∉ [3] → t ∉ [28] → Row w5 b t xs := fun hr n1 n2 n3 => (((hr.below b0).tk (TK.turn W0 k2.turn) n1).tk (TK.box tm k4) n2).tk (TK.turn1 en t5) n3
     have Vs : Hid (Row w5 wb.heap.size 26 [.slice none 0 0]) := tkA HVs.out (by decide) (by decide) (by decide)
     have Vw : Hid (Row w5 w2.heap.size 105 [.pointer (some ⟨w1.heap.size, 0, none⟩)]) := tkA HVw.out (by decide) (by decide) (by decide)
     have Vt : Hid (Row w5 w3.heap.size 3 [.int .i64 q]) := k3.tk (TK.turn1 en t5) (by decide)
     have W5 : Hid (Wr w5 w1.heap.size wc.heap.size v' s' (.int .u64 (key.toNat : Int)) (.func (.func f) #[] bs)) := (k1.tk (TK.box tm k4) (by decide) (by decide) (by decide)).tk (TK.turn1 en t5) (by decide) (by decide) (by decide)
     have hlow : Below w.heap.size w0 wm := k2.turn.below (by have := B4.out.size; have := b0.size; omega) (fun b hb => by
      have := HZ.out; have := HZ4.out
      rcases mem_WS.1 hb with rfl | e
      · omega
      · cases e; show w.heap.size ≤ wc.heap.size; omega)
     have B5 : Hid (Below w.heap.size w w5) := (Kept.belowOf ((B4.out.trans (b0.mono B4.out.size)).trans hlow) k4 (by have := HZ.out; have := HZ4.out; omega)).trans (t5.below (by have := B4.out.size; have := b0.size; have := k2.turn.size; have := k4.size; omega) (fun b hb => by have := B4.out.size; simp only [List.mem_singleton] at hb; omega))
     have HE : Hid _ := hr
     obtain ⟨va, vc, rfl, -, -⟩ := k1.pgs.slice
     have HSee : Hid (∀ W', Below w5.heap.size w5 W' → W'.cell? ⟨w2.heap.size, 0, none⟩ = some (.pointer (some ⟨w1.heap.size, 0, none⟩)) ∧ W'.cell? ⟨w1.heap.size, 0, none⟩ = some (.slice va s'.length vc) ∧ W'.cell? ⟨w3.heap.size, 0, none⟩ = some (.int .i64 q)) := fun W' b' => ⟨(Vw.out.below b').cell (j := 0) rfl, (W5.out.row.below b').cell (j := 0) rfl, (Vt.out.below b').cell (j := 0) rfl⟩
     have HS6 : Hid (∀ u, (w5.drew.setCell ⟨wb.heap.size, 0, none⟩ u).cell? ⟨w2.heap.size, 0, none⟩ = some (.pointer (some ⟨w1.heap.size, 0, none⟩)) ∧ (w5.drew.setCell ⟨wb.heap.size, 0, none⟩ u).cell? ⟨w1.heap.size, 0, none⟩ = some (.slice va s'.length vc) ∧ (w5.drew.setCell ⟨wb.heap.size, 0, none⟩ u).cell? ⟨w3.heap.size, 0, none⟩ = some (.int .i64 q)) := fun u => by
      have k0 : Kept (· ≠ wb.heap.size) w5.drew (w5.drew.setCell ⟨wb.heap.size, 0, none⟩ u) := (Kept.refl _ w5.drew).setCell (p := ⟨wb.heap.size, 0, none⟩) (fun h => h rfl) u
      have s1 := HSee.out _ (Below.refl _ _).drew
      have := HZ.out; have := HZ4.out
      exact ⟨k0.cell (p := ⟨w2.heap.size, 0, none⟩) (by show w2.heap.size ≠ wb.heap.size; omega) s1.1, k0.cell (p := ⟨w1.heap.size, 0, none⟩) (by show w1.heap.size ≠ wb.heap.size; omega) s1.2.1, k0.cell (p := ⟨w3.heap.size, 0, none⟩) (by show w3.heap.size ≠ wb.heap.size; omega) s1.2.2⟩
     have Vd : Hid (Row w5.drew wb.heap.size 26 [.slice none 0 0]) := Vs.out.keep rfl
     have g0 := Vd.out.cell (j := 0) rfl
     have g2 := Vd.out.frozen 0
     clear t5 hr tm en tkA hlow e0 W0 b0 hw0 hw2 hw3 hw4 hw4r t0 tf hwa hwb hwc k1 k2 k3 k4
     go_wp2_with fail
     refine wp_region_held_drew (S := (fun w' : World => w'.cell? ⟨w2.heap.size, 0, none⟩ = some (.pointer (some ⟨w1.heap.size, 0, none⟩)) ∧ w'.cell? ⟨w1.heap.size, 0, none⟩ = some (.slice va s'.length vc) ∧ w'.cell? ⟨w3.heap.size, 0, none⟩ = some (.int .i64 q))) (by kernel_rfl) (HSee.out _ (Below.refl _ _).drew) (fun hH => ?_)
     refine tkM 0 _ rfl rfl ?_; simp only [sz, ss]
     refine tkM 1 _ rfl rfl ?_; simp only [sz, ss]
     refine tkM 2 _ rfl rfl ?_; simp only [sz, ss]
     refine tkM 3 _ rfl rfl ?_; simp only [sz, ss]
     refine tkM 4 _ rfl rfl ?_; simp only [sz, ss]
     refine tkM 5 _ rfl rfl ?_; simp only [sz, ss]
     refine r1L 6 rfl fun K hK => ?_
     · go_simp
       refine hK.out _ _ ?_ (fun hH => ?_)
       · try dsimp only
         exact HS6.out _
       clear hK K
       refine tkM 7 _ rfl rfl ?_; simp only [sz, ss]
       refine tkM 8 _ rfl rfl ?_; simp only [sz, ss]
       refine wpAnyH_done (by kernel_rfl) ?_ _
       clear hH
       go_wp2
       exact one_ret3 Vd.out _ rfl rfl Tryz.underlying26 rfl (by kernel_rfl) (fun w' k' => ⟨Kept.belowOf B5.out.drew k' (by have := HZ.out; omega), (fun x h => by rw [HE.out] at h; cases h), (fun s2 q2 h => by rw [HE.out] at h; cases h; exact ⟨va, vc, rfl, rSectors.weaken (Rep.kept (Rep.below (W5.out.pgs.rd W5.out.few) (Below.refl _ _).drew) k' (fun b hb _ => by have := HZ.out; show b ≠ wb.heap.size; have h2 : wc.heap.size ≤ b := hb; omega)) (fun b hb _ => by have := HZ.out; have h2 : wc.heap.size ≤ b := hb; omega), W5.out.few⟩)⟩)
namespace Tr
def putR (x : Itm) (s : Pgs) (root : Int) : Except Int (Pgs × Int) := if readE s root = 0 then changed (putT x) x.1 s root 16 else .error (readE s root)
end Tr
set_option maxHeartbeats 1000000 in
theorem tputF_u (w : World) (P : Nat → Prop) (s : Pgs) (root : Int) (x : Itm) (pa : Option Addr) (pc : Nat) (hR : rSectors.rd w P [.slice pa s.length pc] s) (h0 : -9223372036854775808 ≤ root) (h1 : root ≤ 9223372036854775807) (hlf : root ≠ 0 → ∃ nd, Tr.nodeE s root = .ok nd ∧ nd.2 = []) (h51 : Tr.readE s root = 0 → ∀ y, Tr.changed (Tr.putT x) x.1 s root 16 = .error y → y = 51) :
 Calls Tryz.prog 15 #[.agg #[.slice pa s.length pc], .int .i64 root, .agg #[.int .u64 (x.1.toNat : Int), .int .u64 (x.2.toNat : Int)]] w fun e w' => ChangedDone (Tr.putR x s root) w e w' := by
 obtain ⟨wa, hwa, Va, ba, za⟩ := boxedRow w 26 [.slice pa s.length pc]
 obtain ⟨wb, hwb, Vb, bb, zb⟩ := boxedRow wa 45 [.int .u64 (x.1.toNat : Int), .int .u64 (x.2.toNat : Int)]
 obtain ⟨wc, hwc, Vc, bc, zc⟩ := boxedRow wb 26 [.slice none 0 0]
 have HVa : Hid _ := (Va.below bb).below bc
 have HVb : Hid (Row wc wa.heap.size 45 [.int .u64 (x.1.toNat : Int), .int .u64 (x.2.toNat : Int)]) := Vb.below bc
 have HVc : Hid _ := Vc
 have BC : Hid (Below w.heap.size w wc) := on (on ba bb) bc
 have HR : Hid (rSectors.rd wc P [.slice pa s.length pc] s) := Rep.below hR BC.out
 have HZ : Hid (wa.heap.size = w.heap.size + 1 ∧ wb.heap.size = w.heap.size + 2 ∧ wc.heap.size = w.heap.size + 3) := ⟨za, by omega, by omega⟩
 have hmf : ∀ (fn : Fn) (first cap : Array Value) (w : World), (Instr.makeFunc fn first cap).run Tryz.prog w = .ok (.func fn first cap) w := fun _ _ _ _ => rfl
 have a0 := HVa.out.cell (j := 0) rfl
 have H51 : Hid _ := h51
 clear Va Vb Vc ba bb bc za zb zc hR h51
 go_enter Tryz.func15, Tryz.ntmps15
 go_wp2_with fail
 go_at_call 21
 refine (tcheck_u wc P s root pa pc HR.out h0 h1).mono ?_
 rintro e w1 ⟨rfl, b1⟩
 have HVa1 : Hid _ := HVa.out.below b1
 have HVb1 : Hid _ := HVb.out.below b1
 have HVc1 : Hid _ := HVc.out.below b1
 have B1 : Hid _ := on BC.out b1
 have HR1 : Hid (rSectors.rd w1 P [.slice pa s.length pc] s) := Rep.below HR.out b1
 by_cases hE : Tr.readE s root = 0
 · have HE : Hid (Tr.putR x s root = Tr.changed (Tr.putT x) x.1 s root 16) := if_pos hE
   have HRt : Hid _ := Tr.readE_root hE
   have HT : Hid _ := put1_turner x wa.heap.size (w.heap.size + 2) (by have := HZ.out; omega)
   have HCd : Hid _ := changedF_u (key := x.1) HT.out w1 P pa pc s HR1.out HRt.out.1 HVb1.out (by have := HZ.out; have := HVc1.out.lt; omega) root HRt.out.2.1 HRt.out.2.2 hlf (H51.out hE)
   rw [hE]
   have a1 := HVa1.out.cell (j := 0) rfl
   obtain ⟨c0, c1⟩ := HVb1.out.two
   clear a0 b1 hE HVa HVb HVc HR
   go_wp2_with fail
   go_at_call 31
   refine Calls.mono HCd.out ?_
   rintro e w2 ⟨b2, hno, hyes⟩
   have Vs : Hid _ := HVc1.out.below b2
   have B2 : Hid _ := on B1.out b2
   have g0 := Vs.out.cell (j := 0) rfl
   have g2 := Vs.out.frozen 0
   rcases hr : Tr.changed (Tr.putT x) x.1 s root 16 with y | ⟨s', q⟩
   · obtain rfl := hno y hr
     have HRr : Hid (Tr.putR x s root = .error y) := HE.out.trans hr
     clear hr hno hyes b2
     go_wp2
     exact one_ret3 Vs.out _ rfl rfl Tryz.underlying26 rfl (by kernel_rfl) (fun w' k' => ⟨Kept.belowOf B2.out k' (by have := HZ.out; omega), (fun x h => by rw [HRr.out] at h; cases h; rfl), (fun s' q h => by rw [HRr.out] at h; cases h)⟩)
   · obtain ⟨va, vc, rfl, hrd, hlen⟩ := hyes s' q hr
     have HRr : Hid (Tr.putR x s root = .ok (s', q)) := HE.out.trans hr
     have HRd : Hid _ := hrd
     have HL : Hid _ := hlen
     have HS1 : Hid (wb.heap.size < w1.heap.size) := HVc1.out.lt
     clear hno hyes b2 hrd hlen hr
     go_wp2
     exact one_ret3 Vs.out _ rfl rfl Tryz.underlying26 rfl (by kernel_rfl) (fun w' k' => ⟨Kept.belowOf B2.out k' (by have := HZ.out; omega), (fun x h => by rw [HRr.out] at h; cases h), (fun s2 q2 h => by rw [HRr.out] at h; cases h; exact ⟨va, vc, rfl, rSectors.weaken (Rep.kept HRd.out k' (fun b hb _ => by have h1 := HS1.out; show b ≠ wb.heap.size; have h2 : w1.heap.size ≤ b := hb; omega)) (fun b hb _ => by have h1 := B1.out.size; have h2 : w1.heap.size ≤ b := hb; omega), HL.out⟩)⟩)
 · have HE : Hid (Tr.putR x s root = .error (Tr.readE s root)) := if_neg hE
   have hEz : (Tr.readE s root == 0) = false := beq_eq_false_iff_ne.2 hE
   clear H51
   have g0 := HVc1.out.cell (j := 0) rfl
   have g2 := HVc1.out.frozen 0
   clear a0 b1 HVa HVb HVc HR
   go_wp2
   exact one_ret3 HVc1.out _ rfl rfl Tryz.underlying26 rfl (by kernel_rfl) (fun w' k' => ⟨Kept.belowOf B1.out k' (by have := HZ.out; omega), (fun x h => by rw [HE.out] at h; cases h; rfl), (fun s' q h => by rw [HE.out] at h; cases h)⟩)
end Go.Proofs.YtkbmadoaomoojaaGreat
