/-
  Facts that the proof rests on, part 20. Conditions: those that each of them names.
-/
import Derived.Test.YtkbmadoaomoojaaGreatT00
import Derived.Deep.DeepCutAuto
import Derived.Deep.RegionHeldLaw
import Derived.Deep.RegionLaw
import Derived.Deep.RegionWith
import Derived.Lib.SliceRun
import Derived.Test.YtkbmadoaomoojaaGreatRows
import Derived.Test.YtkbmadoaomoojaaGreatT01
import Derived.Test.YtkbmadoaomoojaaGreatT02
import Derived.Test.YtkbmadoaomoojaaGreatT06
import Derived.Test.YtkbmadoaomoojaaGreatT12
import Derived.Test.YtkbmadoaomoojaaGreatT14
import Derived.Test.YtkbmadoaomoojaaGreatT15
import Derived.Test.YtkbmadoaomoojaaGreatT17
import Derived.Test.YtkbmadoaomoojaaGreatT18
namespace Go.Proofs.YtkbmadoaomoojaaGreat
set_option maxHeartbeats 16000000
set_option maxRecDepth 20000
open Go.RowKit
set_option linter.unusedVariables false
theorem elem_octs : qKq Tryz.prog 53 5 rByte := qVZ (z := .int .u8 0) Tryz.underlying53 (by kernel_rfl) rfl rfl rfl (by decide)
theorem clone_u (w : World) (x : Option Addr) (m d : Nat) (l : List UInt8) (hB : IsB w x m l) (hm : m ≤ 140737488355328) :
 Calls Tryz.prog 24 #[.slice x m d] w fun e w' => ∃ a c, e = .returned (.slice a m c) ∧ w'.ownsRow w.heap.size 5 1 (.slice a m c) m (cellsOf l) ∧ Below w.heap.size w w' := by
 cases x with
 | none =>
   obtain rfl : m = 0 := hB.2.1 rfl
   have hl : l = [] := List.length_eq_zero_iff.1 hB.1
   subst hl
   clear hB
   have heq : ∀ w, (binOp .eql 53 (.slice none 0 d) (.slice none 0 0)).run Tryz.prog w = .ok (.bool true) w := fun w => Lib.run_eql_slice_nil w 53 5 none 0 d 0 0 Tryz.underlying53
   go_enter Tryz.func24, Tryz.ntmps24
   go_wp2
   go_ret
   exact ⟨none, 0, rfl, World.ownsRow_nil _ _ _ _, Below.refl _ _⟩
 | some ad =>
   obtain ⟨ht, i, z, hi, hz, hsize, hby, hzs, hpos⟩ := elem_octs
   obtain ⟨w1, hw1, V1, b1, z1⟩ := q0q w 5 []
   have hown : w1.ownsRow w.heap.size 5 1 (.slice (some ⟨w.heap.size, 0, none⟩) 0 0) 0 [] := by
    rw [← hw1]
    exact World.ownsRow_made w _ 0 (zw0 _) (by unfold maxLen; omega) rfl
   have hB1 := hB.below b1
   obtain ⟨v', w', hr, k1, k2, -, k4⟩ := run_append_own_at (P := Tryz.prog) w1 w.heap.size 53 53 5 i z 1 1 ht hi hz hsize hby hzs (by decide) _ 0 [] hown ad m d (cellsOf l) (by simp [cellsOf, hB.1]) (fun j u hu => by
    have hj : j < l.length := by have := (List.getElem?_eq_some_iff.1 hu).1; simpa [cellsOf] using this
    have h := hB1.2.2 ad rfl j hj
    rw [h]
    simpa [cellsOf, hj] using hu) (fun u hu => by
    simp only [cellsOf, List.mem_map] at hu
    obtain ⟨y, -, rfl⟩ := hu
    rfl) (by unfold maxLen; omega) (by omega) (by omega)
   rw [Nat.zero_add, List.nil_append] at k1
   obtain ⟨a, c, rfl⟩ : ∃ a c, v' = .slice a m c := by
    rcases k1.2 with ⟨rfl, h0⟩ | ⟨g2, cap, cur, rfl, -⟩
    · exact ⟨none, 0, by rw [h0]⟩
    · exact ⟨_, _, rfl⟩
   have HO : Hid _ := k1
   have HR : Hid _ := hr
   have HB : Hid (Below w.heap.size w w') := by
    refine ⟨k2.os.trans b1.os, k2.tape.trans b1.tape, k2.output.trans b1.output, zw1 b1.size k2.size, fun b hb => (k2.block b (by omega) (fun e => ?_)).trans (b1.block b hb)⟩
    simp only [Value.ownBlock, Option.some.injEq] at e
    omega
   have heq : ∀ w, (binOp .eql 53 (.slice (some ad) m d) (.slice none 0 0)).run Tryz.prog w = .ok (.bool false) w := fun w => Lib.run_eql_slice_nil w 53 5 (some ad) m d 0 0 Tryz.underlying53
   clear hr k1 k2 k4 hown hB hB1 ht hi hz hsize hby hzs hpos V1 b1 z1
   go_enter Tryz.func24, Tryz.ntmps24
   go_wp2_with (at_builtin; refine Lib.wpList_append_run _ rfl _ _ _ _ rfl _ _ rfl rfl _ _ HR.out ?_)
   go_ret
   exact ⟨_, _, rfl, HO.out, HB.out⟩
theorem ok_iff {L : List (List UInt8)} {W : List Act} {cp : Int} : Hst.ok (L, W, cp) = true ↔ (1 ≤ cp ∧ cp ≤ 65536 ∧ (L.length : Int) ≤ cp ∧ W.length ≤ 4096) ∧ (∀ j (h : j < L.length), L[j].length = 64) ∧ ∀ j (h : j < W.length), Hst.actOk cp W[j] = true := by
 simp only [Hst.ok, Hst.headOk, Bool.and_eq_true, decide_eq_true_eq, List.all_eq_true]
 constructor
 · rintro ⟨⟨⟨⟨⟨h1, h2⟩, h3⟩, h4⟩, h5⟩, h6⟩
   exact ⟨⟨h1, h2, h3, h4⟩, fun j h => h5 _ (List.getElem_mem h), fun j h => h6 _ (List.getElem_mem h)⟩
 · rintro ⟨⟨h1, h2, h3, h4⟩, h5, h6⟩
   refine ⟨⟨⟨⟨⟨h1, h2⟩, h3⟩, h4⟩, fun x hx => ?_⟩, fun x hx => ?_⟩
   · obtain ⟨j, h, rfl⟩ := List.getElem_of_mem hx; exact h5 j h
   · obtain ⟨j, h, rfl⟩ := List.getElem_of_mem hx; exact h6 j h
end Go.Proofs.YtkbmadoaomoojaaGreat
namespace Go.Proofs.YtkbmadoaomoojaaGreat
set_option maxHeartbeats 16000000
set_option maxRecDepth 20000
namespace Hst
def secOk (cp : Int) (l : List (List UInt8)) : Prop := (l.length : Int) ≤ cp ∧ ∀ b ∈ l, b.length = 64
theorem ok_parts {s : Host} (h : ok s = true) : 1 ≤ s.2.2 ∧ s.2.2 ≤ 65536 ∧ s.2.1.length ≤ 4096 ∧ secOk s.2.2 s.1 ∧ ∀ a ∈ s.2.1, actOk s.2.2 a = true := by
 simp only [ok, headOk, Bool.and_eq_true, decide_eq_true_eq, List.all_eq_true] at h
 exact ⟨h.1.1.1.1.1, h.1.1.1.1.2, h.1.1.2, ⟨h.1.1.1.2, h.1.2⟩, h.2⟩
end Hst
open Go.RowKit
def lay (l : List UInt8) : List UInt8 := l.take 64 ++ List.replicate (64 - l.length) 0
theorem info_bytes : (Tryz.prog.info? 53).map (fun i => (i.zero, i.size, i.bytes)) = some (some (.slice none 0 0), 1, 24) := by kernel_rfl
theorem rBytes_new2 {w w' : World} {base : Nat} {v : Value} {x : Option Addr} {m d : Nat} {l : List UInt8} (h : w'.ownsRow w.heap.size 5 1 (.slice x m d) m (cellsOf l)) (hm : m ≤ 140737488351232) (hb : base ≤ w.heap.size) (hv : ∀ b, v.ownBlock = some b → b < w.heap.size) : rBytes.rd w' (Lie w' base v) [.slice x m d] l := by
 rcases h.2 with ⟨e, h0⟩ | ⟨g, cap, cur, e, g1, g2, g3, g4, g5, g6⟩
 · simp only [Value.slice.injEq] at e
   obtain ⟨rfl, rfl, rfl⟩ := e
   have hl : l = [] := by
    have := h.1
    simpa [cellsOf] using this
   rw [hl]
   exact qFz _ _
 · have hr := qDZ (base := w.heap.size) h (by omega)
   simp only [Value.slice.injEq] at e
   obtain ⟨rfl, -, rfl⟩ := e
   obtain ⟨a', n', c', e, q1, q2, q3, q4, q5⟩ := hr
   simp only [List.cons.injEq, Value.slice.injEq, and_true] at e
   obtain ⟨rfl, rfl, rfl⟩ := e
   refine ⟨_, _, _, rfl, q1, q2, q3, q4, fun y hy j hj => ?_⟩
   simp only [Option.some.injEq] at hy
   subst hy
   obtain ⟨p1, cj, p2, p3⟩ := q5 _ rfl j hj
   exact ⟨⟨by show base ≤ g; omega, ⟨_, _, g2⟩, fun e => by have := hv g e; omega⟩, cj, p2, p3⟩
theorem Pgd.made {w : World} {g base n : Nat} (h : Row w g 53 (List.replicate n (.slice none 0 0))) (hb : base ≤ g) (hn : n ≤ 1000000) : Pgd w base (.slice (some ⟨g, 0, none⟩) n n) (List.replicate n []) := by
 refine ⟨List.replicate n (.slice none 0 0), ⟨by simp, .inr ⟨g, n, (List.replicate n (.slice none 0 0)).toArray, by simp, hb, h.eq, by simp, by unfold maxLen; omega, by simp, by simp⟩⟩, ?_⟩
 exact Each.replicate n (qFz _ _)
theorem tcopied_u (w : World) (P : Nat → Prop) (a : Option Addr) (n c : Nat) (s : Pgs) (hR : rSectors.rd w P [.slice a n c] s) (hl : n ≤ 2048) :
 Calls Tryz.prog 30 #[.slice a n c] w fun e w' => e = .returned (.slice (some ⟨w.heap.size, 0, none⟩) n n) ∧ Pgd w' w.heap.size (.slice (some ⟨w.heap.size, 0, none⟩) n n) s ∧ Below w.heap.size w w' := by
 have HR : Hid _ := hR
 have HN : Hid (s.length = n) := (q4q hR).1
 clear hR
 go_enter Tryz.func30, Tryz.ntmps30
 go_wp2_with (at_make; refine qXX _ rfl _ _ 22 rfl 53 (.slice none 0 0) 24 Tryz.underlying22 info_bytes rfl n _ rfl rfl rfl (by omega) (by omega) ?_; intro w2 HRw b2 z2)
 have HP0 : Hid (Pgd w2 w.heap.size (.slice (some ⟨w.heap.size, 0, none⟩) n n) (s.take 0 ++ List.replicate (n - 0) [])) := Pgd.made HRw.out (zw0 _) (by omega)
 have HB2 : Hid _ := b2
 clear HRw b2 z2
 go_loopw [11] (fun i wr => ∃ k : Nat, k ≤ n ∧ i = .int .i64 k ∧ Hid (Pgd wr w.heap.size (.slice (some ⟨w.heap.size, 0, none⟩) n n) (s.take k ++ List.replicate (n - k) [])) ∧ Hid (Below w.heap.size w wr)) (fun i _ => n - (intOf i).toNat)
 case atStart => exact ⟨0, Nat.zero_le _, rfl, HP0, HB2⟩
 case round =>
  obtain ⟨k, hk, rfl, HPk, HBk⟩ := hrel
  clear HP0 HB2
  by_cases hlt : k < n
  · obtain ⟨g, off, rfl, -, hgl, hat⟩ := q8X (Rep.below HR.out HBk.out) (by omega)
    have hkl : k < s.length := by rw [HN.out]; exact hlt
    obtain ⟨x, l, e, hx, hle, hcell⟩ := hat k hkl
    have HX : Hid _ := hx
    have HNX : Hid ((s.take k ++ List.replicate (n - k) []).set k s[k] = s.take (k + 1) ++ List.replicate (n - (k + 1)) []) := by
     unfold Hid
     rw [List.set_append_right _ _ (by rw [zw4]; omega), zw4, show k - min k s.length = 0 by omega, List.take_succ_eq_append_getElem hkl, show n - k = (n - (k + 1)) + 1 by omega, List.replicate_succ, List.set_cons_zero, List.append_assoc]
     rfl
    have HLn : Hid ((s.take k ++ List.replicate (n - k) ([] : List UInt8)).length = n) := by unfold Hid; rw [zw2, zw4, List.length_replicate]; omega
    obtain ⟨gp, cc, he, -, hfz⟩ := HPk.out.some_ (i := k) (by rw [HLn.out]; exact hlt)
    clear hat hx he
    generalize s[k] = X at *
    go_wp2_with fail
    go_at_call 24
    refine (clone_u _ x l e X (q5Q HX.out).1 (by have := (q5Q HX.out).2.2.2; omega)).mono ?_
    rintro e w5 ⟨ya, yc, rfl, ho, b5⟩
    have HP5 : Hid (Pgd w5 w.heap.size (.slice (some ⟨w.heap.size, 0, none⟩) n n) (s.take k ++ List.replicate (n - k) [])) := HPk.out.below b5
    have HY : Hid (rBytes.rd w5 (Lie w5 w.heap.size (.slice (some ⟨w.heap.size, 0, none⟩) n n)) [.slice ya l yc] X) := rBytes_new2 ho (by have := (q5Q HX.out).2.2.2; omega) HBk.out.size (fun b hb => (HPk.out.lt b hb).2)
    have HP6 : Hid (Pgd (w5.setCell ⟨w.heap.size, k, none⟩ (.slice ya l yc)) w.heap.size (.slice (some ⟨w.heap.size, 0, none⟩) n n) (s.take (k + 1) ++ List.replicate (n - (k + 1)) [])) := by
     unfold Hid
     rw [← HNX.out]
     exact HP5.out.set (by rw [HLn.out]; exact hlt) HY.out
    obtain ⟨gp2, cc2, he2, ⟨x2, m2, d2, hc2⟩, hfz2⟩ := HP5.out.some_ (i := k) (by rw [HLn.out]; exact hlt)
    simp only [Value.slice.injEq, Option.some.injEq, Addr.mk.injEq, and_true] at he2
    obtain ⟨rfl, -, -⟩ := he2
    have HB6 : Hid (Below w.heap.size w (w5.setCell ⟨w.heap.size, k, none⟩ (.slice ya l yc))) := (on HBk.out b5).setCell (p := ⟨w.heap.size, k, none⟩) (zw0 _) _
    have hk0 : (0 : Int) ≤ (k : Int) := Int.natCast_nonneg _
    have hk1 : (k : Int) < (n : Int) := by omega
    clear ho b5 hfz hcell hgl HX HY HP5 HPk
    go_wp2
    go_roundw
    case rel => exact ⟨k + 1, by omega, by go_num, HP6, HB6⟩
    case measure => simp [intOf]; omega
  · obtain rfl : k = n := by omega
    have HPn : Hid (Pgd wr w.heap.size (.slice (some ⟨w.heap.size, 0, none⟩) k k) s) := by
     have h := HPk.out
     rw [Nat.sub_self, List.replicate_zero, List.append_nil, List.take_of_length_le (by rw [HN.out]; exact zw0 _)] at h
     exact h
    clear HPk
    go_wp2
    go_ret
    exact ⟨rfl, HPn.out, HBk.out⟩
namespace Tr
theorem turned_few {T : List Itm → List Itm} {key : UInt64} (hT : ∀ l, l.length ≤ 3 → (T l).length ≤ 4) {s s' : Pgs} {root : Int} {d : Nat} {cn : Cnt} (hl : s.length ≤ 2048) (h : turned T key s root d = .ok (s', cn)) : Chg s' cn := by
 unfold turned at h
 by_cases hr : root = 0
 · rw [if_pos hr] at h
   cases h
   have := hT [] (by simp)
   exact ⟨by unfold csize; simp only [List.length_nil]; omega, (fun b hb => by cases hb), hl, .inr rfl⟩
 · rw [if_neg hr] at h
   exact change_few hT d hl h
theorem Chg.fuel {s : Pgs} {cn : Cnt} (h : Chg s cn) : Fuel 5 cn := ⟨h.one, by have := h.few; omega, by omega, fun _ => by omega⟩
end Tr
def ChdDone (R : Except Int (Pgs × Int)) (g base bt : Nat) (v kv tv : Value) (w : World) (e : Ending) (w' : World) : Prop :=
 (∀ x, R = .error x → e = q9Q x ∧ Turn (WS g v) w w') ∧ (∀ s' q, R = .ok (s', q) → e = .returned (.tuple #[]) ∧ ∃ v' w1, Wr w1 g base v' s' kv tv ∧ WTurn g v w v' w1 ∧ Row w' bt 3 [.int .i64 q] ∧ Kept (· ≠ bt) w1 w')
theorem ChdDone.no {R : Except Int (Pgs × Int)} {g base bt : Nat} {v kv tv : Value} {w w' : World} {x : Int} (h : R = .error x) (t : Turn (WS g v) w w') : ChdDone R g base bt v kv tv w (q9Q x) w' :=
 ⟨(fun y hy => by rw [h] at hy; cases hy; exact ⟨rfl, t⟩), (fun s' q hq => by rw [h] at hq; cases hq)⟩
theorem changedFn_u {T : List Itm → List Itm} {key : UInt64} {f : Nat} {bs : Array Value} {B : Nat} {J : World → Prop} (hT : qEz T f bs B J) (d : Nat) (w : World) (g base : Nat) (v : Value) (s : Pgs) (hW : Wr w g base v s (.int .u64 (key.toNat : Int)) (.func (.func f) #[] bs)) (hJ : J w) (hB : B ≤ g ∧ B ≤ base) (root : Int) (h0 : 0 ≤ root) (h1 : root ≤ 2049) (hne : Tr.changed T key s root d ≠ .error 9)
 (bw br bt : Nat) (Vw : Row w bw 105 [.pointer (some ⟨g, 0, none⟩)]) (Vr : Row w br 3 [.int .i64 root]) (Vt : Row w bt 3 [.int .i64 0]) (hrt : br ≠ bt) :
 Calls Tryz.prog 51 #[.pointer (some ⟨bw, 0, none⟩), .pointer (some ⟨br, 0, none⟩), .pointer (some ⟨bt, 0, none⟩)] w fun e w' => ChdDone (Tr.changed T key s root d) g base bt v (.int .u64 (key.toNat : Int)) (.func (.func f) #[] bs) w e w' := by
 have HT : Hid _ := hT
 have HW : Hid _ := hW
 have HVw : Hid _ := Vw
 have HVr : Hid _ := Vr
 have HVt : Hid _ := Vt
 have HRT : Hid (br ≠ bt ∧ bw ≠ bt) := ⟨hrt, fun e => by subst e; have h1 := Vw.eq; rw [Vt.eq] at h1; cases h1⟩
 have HTu : Hid (Tr.turned T key s root d ≠ .error 9) := fun e => hne (by unfold Tr.changed; rw [e])
 have HCa : Hid (∀ W, Below w.heap.size w W → Calls Tryz.prog 53 #[.pointer (some ⟨g, 0, none⟩), .int .i64 root] W fun e w' => ChgDone (Tr.turned T key s root d) g base v (.int .u64 (key.toNat : Int)) (.func (.func f) #[] bs) W e w') := fun W b => turned_u hT d W g base v s (hW.below b) (hT.stay hJ ((WTurn.of (g := g) (v := v) b).under hW hB)) hB root h0 h1 HTu.out
 have HSee : Hid (∀ W', Turn (WS g v) w W' → W'.cell? ⟨bw, 0, none⟩ = some (.pointer (some ⟨g, 0, none⟩)) ∧ W'.cell? ⟨br, 0, none⟩ = some (.int .i64 root)) := fun W' t' => ⟨(HVw.out.tk (TK.turn HW.out t') (by decide)).cell (j := 0) rfl, (HVr.out.tk (TK.turn HW.out t') (by decide)).cell (j := 0) rfl⟩
 have HRd : Hid (∀ x, Tr.turned T key s root d = .error x → Tr.changed T key s root d = .error x) := fun x e => by unfold Tr.changed; rw [e]
 have HRk : Hid (∀ s2 cn, Tr.turned T key s root d = .ok (s2, cn) → Tr.changed T key s root d = Tr.rootOf 5 s2 cn) := fun s2 cn e => by unfold Tr.changed; rw [e]
 clear hT hW hJ hB h0 h1 hne Vw Vr Vt hrt
 go_enter Tryz.func51, Tryz.ntmps51
 go_wp2_with fail
 refine wp_region_held_drew (S := (fun w' : World => w'.cell? ⟨bw, 0, none⟩ = some (.pointer (some ⟨g, 0, none⟩)) ∧ w'.cell? ⟨br, 0, none⟩ = some (.int .i64 root))) (by kernel_rfl) (HSee.out _ (Turn.of (Below.refl _ _).drew)) (fun hH => ?_)
 refine tkM 0 _ rfl rfl ?_; simp only [sz, ss]
 refine tkM 1 _ rfl rfl ?_; simp only [sz, ss]
 refine tkM 2 _ rfl rfl ?_; simp only [sz, ss]
 refine r1L 3 rfl fun K hK => ?_
 · go_simp
   go_at_call 53
   refine Calls.mono (HCa.out _ (Below.refl _ _).drew) ?_
   rintro e w2 hd
   rcases ht : Tr.turned T key s root d with x | ⟨s2, cn⟩
   · obtain ⟨rfl, t2⟩ := hd.1 x ht
     exact ⟨rfl, ChdDone.no (HRd.out x ht) (Turn.trans (Turn.of (Below.refl _ _).drew) t2)⟩
   obtain ⟨ca, n, c, da, n', c', v2, rfl, hC2, hW2, t2'⟩ := hd.2 s2 cn ht
   have t2 : WTurn g v w v2 w2 := (WTurn.of (Below.refl _ _).drew).trans t2'
   have HRo : Hid (Tr.changed T key s root d = Tr.rootOf 5 s2 cn) := HRk.out s2 cn ht
   have HC2 : Hid _ := hC2
   have W2 : Hid _ := hW2
   have HT2 : Hid _ := t2
   have HCh : Hid (Tr.Chg s2 cn) := Tr.turned_few HT.out.few HW.out.few ht
   have HN2 : Hid (n = cn.1.length ∧ n' = cn.2.length) := ⟨by obtain ⟨x, y, e, -⟩ := hC2.items.slice; simp only [Value.slice.injEq] at e; exact e.2.1, by obtain ⟨x, y, e, -⟩ := hC2.kids.slice; simp only [Value.slice.injEq] at e; exact e.2.1⟩
   have HTK : Hid (TK [107, 53] w w2) := TK.turn HW.out t2.turn
   have hS2 := HSee.out _ t2.turn
   clear hd hC2 hW2 t2 t2' ht
   go_simp
   refine hK.out _ _ (by exact hS2) fun hH => ?_; clear hK K
   refine r1L 4 rfl fun K hK => ?_
   · go_simp
     go_at_call 52
     refine Calls.mono (rootOf_u w2 g base v2 s2 (.int .u64 (key.toNat : Int)) (.func (.func f) #[] bs) W2.out ca da n c n' c' cn _ HC2.out (fun b hb => HCh.out.pages b hb) 5 HCh.out.fuel (by have := HN2.out; have h := HCh.out.few; unfold Tr.csize at h; omega) (by have := HN2.out; have h := HCh.out.few; unfold Tr.csize at h; omega)) ?_
     rintro e w3 hd
     rcases hro : Tr.rootOf 5 s2 cn with x | ⟨s3, q⟩
     · obtain ⟨rfl, t3⟩ := hd.1 x hro
       exact ⟨rfl, ChdDone.no (HRo.out.trans hro) (HT2.out.trans (WTurn.mk t3 (v' := v2) (fun b e => .inl e))).turn⟩
     obtain ⟨rfl, v3, hW3, t3⟩ := hd.2 s3 q hro
     have HRq : Hid (Tr.changed T key s root d = .ok (s3, q)) := HRo.out.trans hro
     have W3 : Hid _ := hW3
     have HT3 : Hid (WTurn g v w v3 w3) := HT2.out.trans t3
     have V3 : Hid (Row w3 bt 3 [.int .i64 0]) := (HVt.out.tk HTK.out (by decide)).tk (TK.turn W2.out t3.turn) (by decide)
     have hS3 := HSee.out _ HT3.out.turn
     have HS4 : Hid (∀ u, (w3.setCell ⟨bt, 0, none⟩ u).cell? ⟨bw, 0, none⟩ = some (.pointer (some ⟨g, 0, none⟩)) ∧ (w3.setCell ⟨bt, 0, none⟩ u).cell? ⟨br, 0, none⟩ = some (.int .i64 root)) := fun u => by
      have k1 : Kept (· ≠ bt) w3 (w3.setCell ⟨bt, 0, none⟩ u) := (Kept.refl _ w3).setCell (p := ⟨bt, 0, none⟩) (fun h => h rfl) u
      have s1' := HSee.out _ HT3.out.turn
      exact ⟨k1.cell (p := ⟨bw, 0, none⟩) HRT.out.2 s1'.1, k1.cell (p := ⟨br, 0, none⟩) HRT.out.1 s1'.2⟩
     have g0 := V3.out.cell (j := 0) rfl
     have g2 := V3.out.frozen 0
     clear hd hW3 t3 hro
     go_simp
     refine hK.out _ _ (by exact hS3) fun hH => ?_; clear hK K
     refine r1L 5 rfl fun K hK => ?_
     · go_simp
       refine hK.out _ _ (by exact HS4.out _) fun hH => ?_; clear hK K
       refine wpAnyH_done (by kernel_rfl) ?_ _
       clear hH
       go_wp2
       go_end0
       exact ⟨(fun x h => by rw [HRq.out] at h; cases h), (fun s' q' h => by rw [HRq.out] at h; cases h; exact ⟨rfl, v3, w3, W3.out, HT3.out, V3.out.set 0 _, (Kept.refl _ w3).setCell (p := ⟨bt, 0, none⟩) (fun h => h rfl) _⟩)⟩
theorem TK.turn1 {w w' : World} {b : Nat} {t : TypeId} {xs : List Value} (hr : Row w b t xs) (k : Turn [b] w w') : TK [t] w w' :=
 ⟨k.size, fun {x} _ _ _ e hn => k.block x ⟨(Array.getElem?_eq_some_iff.1 e).1, fun e' => by simp only [List.mem_singleton] at e'; subst e'; rw [hr.eq] at e; cases e; exact hn (by simp)⟩⟩
theorem qIz {Pr : Program} {fn : Func} {p q r : Tmp} {ty t : TypeId} {tmps : Array Value} {w2 : World} {b : Nat} {d : TypeDesc} {x0 : Value} (V : Row w2 b t [x0])
 (u0 : Value) (h : fn.results = #[.cell p ty, .tmp q, .tmp r]) (hp : tmps.getD p undef = .pointer (some ⟨b, 0, none⟩))
 (hu : Pr.underlying ty = some d) (hd : d.isRow = true) (hi : (Pr.info? ty).map (·.size) = some 1) {R : Ending → World → Prop}
 (hR : ∀ w', Kept (· ≠ b) w2 w' → R (.returned (.tuple #[.agg #[u0], tmps.getD q undef, tmps.getD r undef])) w') :
 bodyPost Pr fn R .ret { tmps := tmps, defers := [] } (w2.setCell ⟨b, 0, none⟩ u0) := by
 have hr := qHX (Pr := Pr) (fn := fn) h hp (V.set 0 u0) hu hd hi
 exact bodyPost_ret hr rfl (hR _ ((Kept.refl _ w2).setCell (p := ⟨b, 0, none⟩) (fun h => h rfl) u0))
def qHZ (R : Except Int (Pgs × Int)) (w : World) (e : Ending) (w' : World) : Prop :=
 Below w.heap.size w w' ∧ (∀ x, R = .error x → e = .returned (.tuple #[.agg #[.slice none 0 0], .int .i64 0, .int .i64 x])) ∧ (∀ s' q, R = .ok (s', q) → ∃ a c, e = .returned (.tuple #[.agg #[.slice a s'.length c], .int .i64 q, .int .i64 0]) ∧ rSectors.rd w' (fun b => w.heap.size ≤ b) [.slice a s'.length c] s' ∧ s'.length ≤ 2048)
theorem changed_u {T : List Itm → List Itm} {key : UInt64} {f : Nat} {bs : Array Value} {B : Nat} {J : World → Prop} (hT : qEz T f bs B J) (d : Nat) (w : World) (P : Nat → Prop) (pa : Option Addr) (pc : Nat) (s : Pgs) (hR : rSectors.rd w P [.slice pa s.length pc] s) (hl : s.length ≤ 2048) (hJ : J w) (hB : B ≤ w.heap.size) (root : Int) (h0 : 0 ≤ root) (h1 : root ≤ 2049) (h51 : ∀ x, Tr.changed T key s root d = .error x → x = 51) :
 Calls Tryz.prog 31 #[.agg #[.slice pa s.length pc], .int .i64 root, (.int .u64 (key.toNat : Int)), (.func (.func f) #[] bs)] w fun e w' => qHZ (Tr.changed T key s root d) w e w' := by
 have HT : Hid _ := hT
 obtain ⟨wa, hwa, Va, ba, za⟩ := q0q w 26 [.slice pa s.length pc]
 obtain ⟨wb, hwb, Vb, bb, zb⟩ := q0q wa 3 [.int .i64 root]
 obtain ⟨wc, hwc, Vc, bc, zc⟩ := q0q wb 26 [.slice none 0 0]
 have a0 := ((Va.below bb).below bc).cell (j := 0) rfl
 have HVb : Hid (Row wc wa.heap.size 3 [.int .i64 root]) := Vb.below bc
 have HVc : Hid _ := Vc
 have BC : Hid (Below w.heap.size w wc) := on (on ba bb) bc
 have HRc : Hid (rSectors.rd wc P [.slice pa s.length pc] s) := Rep.below hR BC.out
 have HZ : Hid (wa.heap.size = w.heap.size + 1 ∧ wb.heap.size = w.heap.size + 2 ∧ wc.heap.size = w.heap.size + 3) := ⟨za, by omega, by omega⟩
 have HJ : Hid (J w) := hJ
 have HB : Hid (B ≤ w.heap.size) := hB
 have H51 : Hid (∀ x, Tr.changed T key s root d = .error x → x = 51) := h51
 have hmf : ∀ (fn : Fn) (first cap : Array Value) (w : World), (Instr.makeFunc fn first cap).run Tryz.prog w = .ok (.func fn first cap) w := fun _ _ _ _ => rfl
 clear hT hR Va Vb Vc ba bb bc za zb zc hJ hB h51
 go_enter Tryz.func31, Tryz.ntmps31
 go_wp2_with fail
 go_at_call 30
 refine (tcopied_u wc _ pa s.length pc s HRc.out hl).mono ?_
 rintro e w1 ⟨rfl, hPg, b1⟩
 obtain ⟨w2, hw2, V2, b2, z2⟩ := q0q w1 107 [.slice (some ⟨wc.heap.size, 0, none⟩) s.length s.length, (.int .u64 (key.toNat : Int)), (.func (.func f) #[] bs)]
 obtain ⟨w3, hw3, V3, b3, z3⟩ := q0q w2 105 [.pointer (some ⟨w1.heap.size, 0, none⟩)]
 obtain ⟨w4r, hw4r, V4r, b4r, z4r⟩ := q0q w3 3 [.int .i64 0]
 have t0 := V4r.cell (j := 0) rfl
 have tf := V4r.frozen 0
 obtain ⟨w4, hw4⟩ : ∃ w4, w4r.setCell ⟨w3.heap.size, 0, none⟩ (.int .i64 0) = w4 := ⟨_, rfl⟩
 have V4 : Row w4 w3.heap.size 3 [.int .i64 0] := by rw [← hw4]; exact V4r.set 0 _
 have b4 : Below w3.heap.size w3 w4 := by rw [← hw4]; exact b4r.setCell (p := ⟨w3.heap.size, 0, none⟩) (zw0 _) _
 have z4 : w4.heap.size = w3.heap.size + 1 := by rw [← hw4]; simp [World.setCell]; exact z4r
 have b14 : Below w1.heap.size w1 w4 := on (on b2 b3) b4
 have B4 : Hid (Below w.heap.size w w4) := on (on BC.out b1) b14
 have W4 : Hid (Wr w4 w1.heap.size wc.heap.size (.slice (some ⟨wc.heap.size, 0, none⟩) s.length s.length) s (.int .u64 (key.toNat : Int)) (.func (.func f) #[] bs)) := ⟨(V2.below b3).below b4, hPg.below b14, hl, by have := b1.size; have := b14.size; omega⟩
 have HVw : Hid _ := V3.below b4
 have HVt : Hid _ := V4
 have HVr : Hid (Row w4 wa.heap.size 3 [.int .i64 root]) := HVb.out.below (on b1 b14)
 have HVs : Hid (Row w4 wb.heap.size 26 [.slice none 0 0]) := HVc.out.below (on b1 b14)
 have HZ4 : Hid (wc.heap.size ≤ w1.heap.size ∧ w2.heap.size = w1.heap.size + 1 ∧ w3.heap.size = w1.heap.size + 2 ∧ w4.heap.size = w1.heap.size + 3) := ⟨b1.size, z2, by omega, by omega⟩
 have HJ4 : Hid (J w4) := HT.out.stay HJ.out (B4.out.mono HB.out)
 clear hPg b1 V2 V3 V4 b2 b3 b4 z2 z3 z4 b14 HVb HVc HRc a0 V4r b4r z4r
 go_wp2_with fail
 go_at_call 43
 refine (refusal_u w4 51 #[.pointer (some ⟨w2.heap.size, 0, none⟩), .pointer (some ⟨wa.heap.size, 0, none⟩), .pointer (some ⟨w3.heap.size, 0, none⟩)] (fun args w => enters_of Tryz.func51 (by kernel_rfl) rfl args w)
  (fun x w' => ∃ w0, w4.alloc (.cells #[.int .i64 0] 28) = w0 ∧ (Tr.changed T key s root d = .error x ∧ Turn (WS w1.heap.size (.slice (some ⟨wc.heap.size, 0, none⟩) s.length s.length)) w0 w' ∨ ∃ s' q v' wm, x = 0 ∧ Tr.changed T key s root d = .ok (s', q) ∧ Wr wm w1.heap.size wc.heap.size v' s' (.int .u64 (key.toNat : Int)) (.func (.func f) #[] bs) ∧ WTurn w1.heap.size (.slice (some ⟨wc.heap.size, 0, none⟩) s.length s.length) w0 v' wm ∧ Row w' w3.heap.size 3 [.int .i64 q] ∧ Kept (· ≠ w3.heap.size) wm w')) ?_).mono ?_
 · intro w0 hw0
   have b0 : Below w4.heap.size w4 w0 := by rw [← hw0]; exact (Below.refl _ _).alloc (zw0 _) _
   have e0 : Row w0 w4.heap.size 28 [.int .i64 0] := by rw [← hw0]; exact q1Z _ _ _
   refine (changedFn_u HT.out d w0 w1.heap.size wc.heap.size _ s (W4.out.below b0) (HT.out.stay HJ4.out ((b0.mono B4.out.size).mono HB.out)) ⟨by have := HB.out; have := HZ.out; have := HZ4.out; omega, by have := HB.out; have := HZ.out; omega⟩ root h0 h1 (fun h => by have := H51.out _ h; omega) w2.heap.size wa.heap.size w3.heap.size (HVw.out.below b0) (HVr.out.below b0) (HVt.out.below b0) (by have := HZ.out; have := HZ4.out; omega)).mono ?_
   rintro e w' hd
   rcases hr : Tr.changed T key s root d with x | ⟨s', q⟩
   · obtain ⟨rfl, t⟩ := hd.1 x hr
     exact ⟨x, .inr rfl, (e0.tk (TK.turn (W4.out.below b0) t) (by decide)).eq.trans e0.eq.symm, t.size, w0, hw0, .inl ⟨rfl, t⟩⟩
   · obtain ⟨rfl, v', wm, k1, k2, k3, k4⟩ := hd.2 s' q hr
     have e1 := e0.tk (TK.turn (W4.out.below b0) k2.turn) (by decide)
     have tm := (HVt.out.below b0).tk (TK.turn (W4.out.below b0) k2.turn) (by decide)
     have e2 := e1.tk (TK.box tm k4) (by decide)
     exact ⟨0, .inl ⟨rfl, rfl⟩, e2.eq.trans e0.eq.symm, zw1 k2.turn.size k4.size, w0, hw0, .inr ⟨s', q, v', wm, rfl, rfl, k1, k2, k3, k4⟩⟩
 · rintro e w5 ⟨x, wn, rfl, ⟨w0, hw0, hx⟩, t5⟩
   have b0 : Below w4.heap.size w4 w0 := by rw [← hw0]; exact (Below.refl _ _).alloc (zw0 _) _
   have e0 : Row w0 w4.heap.size 28 [.int .i64 0] := by rw [← hw0]; exact q1Z _ _ _
   have W0 := W4.out.below b0
   rcases hx with ⟨hr, t⟩ | ⟨s', q, v', wm, rfl, hr, k1, k2, k3, k4⟩
   · obtain rfl := H51.out x hr
     have en := e0.tk (TK.turn W0 t) (by decide)
     have Vs : Hid (Row w5 wb.heap.size 26 [.slice none 0 0]) := ((HVs.out.below b0).tk (TK.turn W0 t) (by decide)).tk (TK.turn1 en t5) (by decide)
     have hlow : Below w.heap.size w0 wn := t.below (by have := B4.out.size; have := b0.size; omega) (fun b hb => by
      have := HZ.out; have := HZ4.out
      rcases mem_WS.1 hb with rfl | e
      · omega
      · cases e; show w.heap.size ≤ wc.heap.size; omega)
     have B5 : Hid (Below w.heap.size w w5) := ((B4.out.trans (b0.mono B4.out.size)).trans hlow).trans (t5.below (by have := B4.out.size; have := b0.size; have := t.size; omega) (fun b hb => by have := B4.out.size; simp only [List.mem_singleton] at hb; omega))
     have HE : Hid _ := hr
     have g0 := Vs.out.cell (j := 0) rfl
     have g2 := Vs.out.frozen 0
     clear t5 hr t en hlow e0 W0 b0 hw0 hw2 hw3 hw4 hw4r t0 tf hwa hwb hwc
     go_wp2
     exact qIz Vs.out _ rfl rfl Tryz.underlying26 rfl (by kernel_rfl) (fun w' k' => ⟨Kept.belowOf B5.out k' (by have := HZ.out; omega), (fun x h => by rw [HE.out] at h; cases h; rfl), (fun s' q h => by rw [HE.out] at h; cases h)⟩)
   · have tm := (HVt.out.below b0).tk (TK.turn W0 k2.turn) (by decide)
     have en := (e0.tk (TK.turn W0 k2.turn) (by decide)).tk (TK.box tm k4) (by decide)
     have tkA : ∀ {b : Nat} {t : TypeId} {xs : List Value}, Row w4 b t xs → t ∉ [107, 53] → t ∉ [3] → t ∉ [28] → Row w5 b t xs := fun hr n1 n2 n3 => (((hr.below b0).tk (TK.turn W0 k2.turn) n1).tk (TK.box tm k4) n2).tk (TK.turn1 en t5) n3
     have Vs : Hid (Row w5 wb.heap.size 26 [.slice none 0 0]) := tkA HVs.out (by decide) (by decide) (by decide)
     have Vw : Hid (Row w5 w2.heap.size 105 [.pointer (some ⟨w1.heap.size, 0, none⟩)]) := tkA HVw.out (by decide) (by decide) (by decide)
     have Vt : Hid (Row w5 w3.heap.size 3 [.int .i64 q]) := k3.tk (TK.turn1 en t5) (by decide)
     have W5 : Hid (Wr w5 w1.heap.size wc.heap.size v' s' (.int .u64 (key.toNat : Int)) (.func (.func f) #[] bs)) := (k1.tk (TK.box tm k4) (by decide) (by decide) (by decide)).tk (TK.turn1 en t5) (by decide) (by decide) (by decide)
     have hlow : Below w.heap.size w0 wm := k2.turn.below (by have := B4.out.size; have := b0.size; omega) (fun b hb => by
      have := HZ.out; have := HZ4.out
      rcases mem_WS.1 hb with rfl | e
      · omega
      · cases e; show w.heap.size ≤ wc.heap.size; omega)
     have B5 : Hid (Below w.heap.size w w5) := (Kept.belowOf ((B4.out.trans (b0.mono B4.out.size)).trans hlow) k4 (by have := HZ.out; have := HZ4.out; omega)).trans (t5.below (by have := B4.out.size; have := b0.size; have := k2.turn.size; have := k4.size; omega) (fun b hb => by have := B4.out.size; simp only [List.mem_singleton] at hb; omega))
     have HE : Hid _ := hr
     obtain ⟨va, vc, rfl, -, -⟩ := k1.pgs.slice
     have HSee : Hid (∀ W', Below w5.heap.size w5 W' → W'.cell? ⟨w2.heap.size, 0, none⟩ = some (.pointer (some ⟨w1.heap.size, 0, none⟩)) ∧ W'.cell? ⟨w1.heap.size, 0, none⟩ = some (.slice va s'.length vc) ∧ W'.cell? ⟨w3.heap.size, 0, none⟩ = some (.int .i64 q)) := fun W' b' => ⟨(Vw.out.below b').cell (j := 0) rfl, (W5.out.row.below b').cell (j := 0) rfl, (Vt.out.below b').cell (j := 0) rfl⟩
     have HS6 : Hid (∀ u, (w5.drew.setCell ⟨wb.heap.size, 0, none⟩ u).cell? ⟨w2.heap.size, 0, none⟩ = some (.pointer (some ⟨w1.heap.size, 0, none⟩)) ∧ (w5.drew.setCell ⟨wb.heap.size, 0, none⟩ u).cell? ⟨w1.heap.size, 0, none⟩ = some (.slice va s'.length vc) ∧ (w5.drew.setCell ⟨wb.heap.size, 0, none⟩ u).cell? ⟨w3.heap.size, 0, none⟩ = some (.int .i64 q)) := fun u => by
      have k0 : Kept (· ≠ wb.heap.size) w5.drew (w5.drew.setCell ⟨wb.heap.size, 0, none⟩ u) := (Kept.refl _ w5.drew).setCell (p := ⟨wb.heap.size, 0, none⟩) (fun h => h rfl) u
      have s1 := HSee.out _ (Below.refl _ _).drew
      have := HZ.out; have := HZ4.out
      exact ⟨k0.cell (p := ⟨w2.heap.size, 0, none⟩) (by show w2.heap.size ≠ wb.heap.size; omega) s1.1, k0.cell (p := ⟨w1.heap.size, 0, none⟩) (by show w1.heap.size ≠ wb.heap.size; omega) s1.2.1, k0.cell (p := ⟨w3.heap.size, 0, none⟩) (by show w3.heap.size ≠ wb.heap.size; omega) s1.2.2⟩
     have Vd : Hid (Row w5.drew wb.heap.size 26 [.slice none 0 0]) := Vs.out.keep rfl
     have g0 := Vd.out.cell (j := 0) rfl
     have g2 := Vd.out.frozen 0
     clear t5 hr tm en tkA hlow e0 W0 b0 hw0 hw2 hw3 hw4 hw4r t0 tf hwa hwb hwc k1 k2 k3 k4
     go_wp2_with fail
     refine wp_region_held_drew (S := (fun w' : World => w'.cell? ⟨w2.heap.size, 0, none⟩ = some (.pointer (some ⟨w1.heap.size, 0, none⟩)) ∧ w'.cell? ⟨w1.heap.size, 0, none⟩ = some (.slice va s'.length vc) ∧ w'.cell? ⟨w3.heap.size, 0, none⟩ = some (.int .i64 q))) (by kernel_rfl) (HSee.out _ (Below.refl _ _).drew) (fun hH => ?_)
     refine tkM 0 _ rfl rfl ?_; simp only [sz, ss]
     refine tkM 1 _ rfl rfl ?_; simp only [sz, ss]
     refine tkM 2 _ rfl rfl ?_; simp only [sz, ss]
     refine tkM 3 _ rfl rfl ?_; simp only [sz, ss]
     refine tkM 4 _ rfl rfl ?_; simp only [sz, ss]
     refine tkM 5 _ rfl rfl ?_; simp only [sz, ss]
     refine r1L 6 rfl fun K hK => ?_
     · go_simp
       refine hK.out _ _ (by exact HS6.out _) fun hH => ?_; clear hK K
       refine tkM 7 _ rfl rfl ?_; simp only [sz, ss]
       refine tkM 8 _ rfl rfl ?_; simp only [sz, ss]
       refine wpAnyH_done (by kernel_rfl) ?_ _
       clear hH
       go_wp2
       exact qIz Vd.out _ rfl rfl Tryz.underlying26 rfl (by kernel_rfl) (fun w' k' => ⟨Kept.belowOf B5.out.drew k' (by have := HZ.out; omega), (fun x h => by rw [HE.out] at h; cases h), (fun s2 q2 h => by rw [HE.out] at h; cases h; exact ⟨va, vc, rfl, rSectors.weaken (Rep.kept (Rep.below (W5.out.pgs.rd W5.out.few) (Below.refl _ _).drew) k' (fun b hb _ => by have := HZ.out; show b ≠ wb.heap.size; have h2 : wc.heap.size ≤ b := hb; omega)) (fun b hb _ => by have := HZ.out; have h2 : wc.heap.size ≤ b := hb; omega), W5.out.few⟩)⟩)
namespace Tr
def putR (x : Itm) (s : Pgs) (root : Int) : Except Int (Pgs × Int) := if readE s root = 0 then changed (putT x) x.1 s root 16 else .error (readE s root)
end Tr
theorem tput_u (w : World) (P : Nat → Prop) (s : Pgs) (root : Int) (x : Itm) (pa : Option Addr) (pc : Nat) (hR : rSectors.rd w P [.slice pa s.length pc] s) (h0 : -9223372036854775808 ≤ root) (h1 : root ≤ 9223372036854775807) (h51 : Tr.readE s root = 0 → ∀ y, Tr.changed (Tr.putT x) x.1 s root 16 = .error y → y = 51) :
 Calls Tryz.prog 15 #[.agg #[.slice pa s.length pc], .int .i64 root, .agg #[.int .u64 (x.1.toNat : Int), .int .u64 (x.2.toNat : Int)]] w fun e w' => qHZ (Tr.putR x s root) w e w' := by
 obtain ⟨wa, hwa, Va, ba, za⟩ := q0q w 26 [.slice pa s.length pc]
 obtain ⟨wb, hwb, Vb, bb, zb⟩ := q0q wa 45 [.int .u64 (x.1.toNat : Int), .int .u64 (x.2.toNat : Int)]
 obtain ⟨wc, hwc, Vc, bc, zc⟩ := q0q wb 26 [.slice none 0 0]
 have HVa : Hid _ := (Va.below bb).below bc
 have HVb : Hid (Row wc wa.heap.size 45 [.int .u64 (x.1.toNat : Int), .int .u64 (x.2.toNat : Int)]) := Vb.below bc
 have HVc : Hid _ := Vc
 have BC : Hid (Below w.heap.size w wc) := on (on ba bb) bc
 have HR : Hid (rSectors.rd wc P [.slice pa s.length pc] s) := Rep.below hR BC.out
 have HZ : Hid (wa.heap.size = w.heap.size + 1 ∧ wb.heap.size = w.heap.size + 2 ∧ wc.heap.size = w.heap.size + 3) := ⟨za, by omega, by omega⟩
 have hmf : ∀ (fn : Fn) (first cap : Array Value) (w : World), (Instr.makeFunc fn first cap).run Tryz.prog w = .ok (.func fn first cap) w := fun _ _ _ _ => rfl
 have a0 := HVa.out.cell (j := 0) rfl
 have H51 : Hid _ := h51
 clear Va Vb Vc ba bb bc za zb zc hR h51
 go_enter Tryz.func15, Tryz.ntmps15
 go_wp2_with fail
 go_at_call 21
 refine (tcheck_u wc P s root pa pc HR.out h0 h1).mono ?_
 rintro e w1 ⟨rfl, b1⟩
 have HVa1 : Hid _ := HVa.out.below b1
 have HVb1 : Hid _ := HVb.out.below b1
 have HVc1 : Hid _ := HVc.out.below b1
 have B1 : Hid _ := on BC.out b1
 have HR1 : Hid (rSectors.rd w1 P [.slice pa s.length pc] s) := Rep.below HR.out b1
 by_cases hE : Tr.readE s root = 0
 · have HE : Hid (Tr.putR x s root = Tr.changed (Tr.putT x) x.1 s root 16) := if_pos hE
   have HRt : Hid _ := Tr.readE_root hE
   have HT : Hid _ := put1_turner x wa.heap.size (w.heap.size + 2) (by have := HZ.out; omega)
   have HCd : Hid _ := changed_u (key := x.1) HT.out 16 w1 P pa pc s HR1.out HRt.out.1 HVb1.out (by have := HZ.out; have := HVc1.out.lt; omega) root HRt.out.2.1 HRt.out.2.2 (H51.out hE)
   rw [hE]
   have a1 := HVa1.out.cell (j := 0) rfl
   obtain ⟨c0, c1⟩ := HVb1.out.two
   clear a0 b1 hE HVa HVb HVc HR
   go_wp2_with fail
   go_at_call 31
   refine Calls.mono HCd.out ?_
   rintro e w2 ⟨b2, hno, hyes⟩
   have Vs : Hid _ := HVc1.out.below b2
   have B2 : Hid _ := on B1.out b2
   have g0 := Vs.out.cell (j := 0) rfl
   have g2 := Vs.out.frozen 0
   rcases hr : Tr.changed (Tr.putT x) x.1 s root 16 with y | ⟨s', q⟩
   · obtain rfl := hno y hr
     have HRr : Hid (Tr.putR x s root = .error y) := HE.out.trans hr
     clear hr hno hyes b2
     go_wp2
     exact qIz Vs.out _ rfl rfl Tryz.underlying26 rfl (by kernel_rfl) (fun w' k' => ⟨Kept.belowOf B2.out k' (by have := HZ.out; omega), (fun x h => by rw [HRr.out] at h; cases h; rfl), (fun s' q h => by rw [HRr.out] at h; cases h)⟩)
   · obtain ⟨va, vc, rfl, hrd, hlen⟩ := hyes s' q hr
     have HRr : Hid (Tr.putR x s root = .ok (s', q)) := HE.out.trans hr
     have HRd : Hid _ := hrd
     have HL : Hid _ := hlen
     have HS1 : Hid (wb.heap.size < w1.heap.size) := HVc1.out.lt
     clear hno hyes b2 hrd hlen hr
     go_wp2
     exact qIz Vs.out _ rfl rfl Tryz.underlying26 rfl (by kernel_rfl) (fun w' k' => ⟨Kept.belowOf B2.out k' (by have := HZ.out; omega), (fun x h => by rw [HRr.out] at h; cases h), (fun s2 q2 h => by rw [HRr.out] at h; cases h; exact ⟨va, vc, rfl, rSectors.weaken (Rep.kept HRd.out k' (fun b hb _ => by have h1 := HS1.out; show b ≠ wb.heap.size; have h2 : w1.heap.size ≤ b := hb; omega)) (fun b hb _ => by have h1 := B1.out.size; have h2 : w1.heap.size ≤ b := hb; omega), HL.out⟩)⟩)
 · have HE : Hid (Tr.putR x s root = .error (Tr.readE s root)) := if_neg hE
   have hEz : (Tr.readE s root == 0) = false := beq_eq_false_iff_ne.2 hE
   clear H51
   have g0 := HVc1.out.cell (j := 0) rfl
   have g2 := HVc1.out.frozen 0
   clear a0 b1 HVa HVb HVc HR
   go_wp2
   exact qIz HVc1.out _ rfl rfl Tryz.underlying26 rfl (by kernel_rfl) (fun w' k' => ⟨Kept.belowOf B1.out k' (by have := HZ.out; omega), (fun x h => by rw [HE.out] at h; cases h; rfl), (fun s' q h => by rw [HE.out] at h; cases h)⟩)
namespace Tr
def delT (k : UInt64) (l : List Itm) : List Itm := l.filter fun y => decide (y.1 ≠ k)
theorem qBJ {p : Itm → Bool} {l : List Itm} (h : ∀ x ∈ l, p x = true) : l.filter p = l := List.filter_eq_self.2 h
theorem qQX {p : Itm → Bool} {l : List Itm} (h : ∀ x ∈ l, p x = false) : l.filter p = [] := List.filter_eq_nil_iff.2 fun x hx => by rw [h x hx]; decide
theorem qAj (x : Itm) : Acts (putT x) x.1 where
 mid a l b hu ha hb := by
  unfold putT
  rw [List.filter_append, List.filter_append, List.filter_append, List.filter_append]
  rw [qBJ (l := a) (fun y hy => decide_eq_true (ha y hy)), qQX (l := b) (fun y hy => decide_eq_false (by have := hb y hy; omega)), qQX (l := a) (fun y hy => decide_eq_false (by have := ha y hy; omega)), qBJ (l := b) (fun y hy => decide_eq_true (hb y hy))]
  simp
 up l hu := by
  unfold putT
  rw [List.append_assoc]
  refine List.pairwise_append.2 ⟨List.Pairwise.sublist List.filter_sublist hu, List.pairwise_append.2 ⟨by simp, List.Pairwise.sublist List.filter_sublist hu, fun a ha b hb => ?_⟩, fun a ha b hb => ?_⟩
  · obtain rfl := List.mem_singleton.1 ha
    simpa using (List.mem_filter.1 hb).2
  · have h1 : a.1.toNat < x.1.toNat := by simpa using (List.mem_filter.1 ha).2
    rcases List.mem_append.1 hb with hb | hb
    · obtain rfl := List.mem_singleton.1 hb; exact h1
    · have h2 : x.1.toNat < b.1.toNat := by simpa using (List.mem_filter.1 hb).2
      omega
 mem l y hy := by
  unfold putT at hy
  rcases List.mem_append.1 hy with hy | hy
  · rcases List.mem_append.1 hy with hy | hy
    · exact .inl (List.mem_filter.1 hy).1
    · obtain rfl := List.mem_singleton.1 hy; exact .inr rfl
  · exact .inl (List.mem_filter.1 hy).1
 few l := putT_few x l
theorem acts_del (k : UInt64) : Acts (delT k) k where
 mid a l b hu ha hb := by
  unfold delT
  have ea : a.filter (fun y => decide (y.1 ≠ k)) = a := qBJ fun y hy => decide_eq_true (show y.1 ≠ k from fun e => by have := ha y hy; rw [e] at this; omega)
  have eb : b.filter (fun y => decide (y.1 ≠ k)) = b := qBJ fun y hy => decide_eq_true (show y.1 ≠ k from fun e => by have := hb y hy; rw [e] at this; omega)
  rw [List.filter_append, List.filter_append, ea, eb]
 up l hu := List.Pairwise.sublist List.filter_sublist hu
 mem l y hy := .inl (List.mem_filter.1 hy).1
 few l := zw1 (List.length_filter_le _ _) (Nat.le_succ _)
theorem put51 {x : Itm} {s : Pgs} {root : Int} (h : readE s root = 0) : ∀ y, changed (putT x) x.1 s root 16 = .error y → y = 51 := fun y hy => by
 rcases q7Z (qAj x) h with ⟨h1, -⟩ | ⟨s', r, h1, -⟩
 · rw [h1] at hy; cases hy; rfl
 · rw [h1] at hy; cases hy
theorem qMj {s : Pgs} {root : Int} : Up (readI s root) := by
 by_cases h : readE s root = 0
 · obtain ⟨-, hr⟩ := qPz h
   rcases hr with ⟨e, -⟩ | ⟨d, -, hF, hI, -⟩
   · rw [e]; exact List.Pairwise.nil
   · rw [← hI]; exact (qCX hF).1
 · unfold readI
   rw [if_neg (fun k => h k.1)]
   exact List.Pairwise.nil
theorem qXz {x : Itm} {s s' : Pgs} {root r : Int} (h : putR x s root = .ok (s', r)) : readE s root = 0 ∧ qTx (putT x) s root s' r := by
 unfold putR at h
 by_cases hE : readE s root = 0
 · rw [if_pos hE] at h
   refine ⟨hE, ?_⟩
   rcases q7Z (qAj x) hE with ⟨h1, -⟩ | ⟨s2, r2, h1, h2⟩
   · rw [h1] at h; cases h
   · rw [h1] at h; cases h; exact h2
 · rw [if_neg hE] at h; cases h
theorem putR_error {x : Itm} {s : Pgs} {root y : Int} (h : putR x s root = .error y) : (readE s root ≠ 0 ∧ y = readE s root) ∨ (readE s root = 0 ∧ y = 51 ∧ 2048 < s.length + 26) := by
 unfold putR at h
 by_cases hE : readE s root = 0
 · rw [if_pos hE] at h
   rcases q7Z (qAj x) hE with ⟨h1, h2⟩ | ⟨s2, r2, h1, h2⟩
   · rw [h1] at h; cases h; exact .inr ⟨hE, rfl, h2⟩
   · rw [h1] at h; cases h
 · rw [if_neg hE] at h; cases h; exact .inl ⟨hE, rfl⟩
end Tr
theorem Put_u (w : World) (P : Nat → Prop) (s : Pgs) (root : Int) (x : Itm) (pa : Option Addr) (pc : Nat) (hR : rSectors.rd w P [.slice pa s.length pc] s) (h0 : -9223372036854775808 ≤ root) (h1 : root ≤ 9223372036854775807) :
 Calls Tryz.prog 15 #[.agg #[.slice pa s.length pc], .int .i64 root, .agg #[.int .u64 (x.1.toNat : Int), .int .u64 (x.2.toNat : Int)]] w fun e w' => qHZ (Tr.putR x s root) w e w' :=
 tput_u w P s root x pa pc hR h0 h1 (fun h => Tr.put51 h)
end Go.Proofs.YtkbmadoaomoojaaGreat
namespace Go.Proofs.YtkbmadoaomoojaaGreat
set_option maxHeartbeats 16000000
set_option maxRecDepth 20000
set_option linter.unusedVariables false
namespace Tr
open Lf
def Full (s : Pgs) : Prop := ∀ b ∈ s, b ≠ []
theorem Full.add {s : Pgs} {n : Nod} (h : Full s) (hl : s.length < 2048) (hn : ok n = true) : add s n = .ok (s ++ [enc n], (s.length : Int) + 1) := by
 have e : slot s = s.length := by
  unfold slot
  rw [List.findIdx?_eq_none_iff.2 (fun b hb => by have := h b hb; cases b with | nil => exact absurd rfl this | cons _ _ => rfl)]
  rfl
 unfold Tr.add
 rw [e, if_neg (by omega), if_pos hn]
 unfold putAt
 rw [if_neg (by omega)]
theorem Full.more {s : Pgs} {n : Nod} (h : Full s) (hn : ok n = true) : Full (s ++ [enc n]) := fun b hb => by
 rcases List.mem_append.1 hb with hb | hb
 · exact h b hb
 · obtain rfl := List.mem_singleton.1 hb
   exact enc_ne (Lf.ok_iff.1 hn)
theorem qKj {s : Pgs} {l : List Itm} (h : Full s) (hl : s.length < 2048) (hn : ok (l, []) = true) (h0 : l ≠ []) (hg : groups 3 l = [l]) : rootOf 5 s (l, []) = .ok (s ++ [enc (l, [])], (s.length : Int) + 1) := by
 have e1 : lay s (l, []) = .ok (s ++ [enc (l, [])], [(keyF l, (s.length : Int) + 1)]) := by
  unfold lay
  simp only [hg, layG, leafOver, h.add hl hn, List.nil_append]
  rfl
 unfold rootOf
 rw [if_pos (.inl h0)]
 simp only [e1]
 unfold rootOf
 rw [if_neg (by simp)]
 rfl
theorem qHQ {s : Pgs} {T : List Itm → List Itm} {key : UInt64} {root : Int} {l : List Itm} (h1 : 1 ≤ root) (h2 : root ≤ s.length) (hp : page s root = enc (l, [])) (hn : ok (l, []) = true) : changed T key s root 16 = rootOf 5 s (T l, []) := by
 have hd := q4J hn
 have e : nodeE s root = .ok (l, []) := by
  unfold nodeE nod
  rw [hp, hd.1, hd.2, if_pos ⟨h1, h2, rfl⟩]
 unfold changed turned
 rw [if_neg (by omega)]
 unfold change
 simp only [e]
 rfl
def it (k : UInt64) : Itm := (k, 0)
def l1 : List Itm := [it 1]
def l2 : List Itm := [it 1, it 2]
def l3 : List Itm := [it 1, it 2, it 3]
def la : List Itm := [it 1, it 2]
def lb : List Itm := [it 3, it 4]
def nt : Nod := ([it 3], [4, 5])
def s1 : Pgs := [enc (l1, [])]
def s2 : Pgs := s1 ++ [enc (l2, [])]
def s3 : Pgs := s2 ++ [enc (l3, [])]
def s4 : Pgs := s3 ++ [enc (la, [])] ++ [enc (lb, [])] ++ [enc nt]
theorem ok1 : ok (l1, []) = true := by decide
theorem ok2 : ok (l2, []) = true := by decide
theorem ok3 : ok (l3, []) = true := by decide
theorem oka : ok (la, []) = true := by decide
theorem okb : ok (lb, []) = true := by decide
theorem okt : ok nt = true := by decide
theorem full0 : Full [] := fun b hb => by cases hb
theorem full1 : Full s1 := full0.more ok1
theorem full2 : Full s2 := full1.more ok2
theorem full3 : Full s3 := full2.more ok3
theorem put1 : changed (putT (it 1)) 1 [] 0 16 = .ok (s1, 1) := by
 unfold changed turned
 rw [if_pos rfl]
 have e : putT (it 1) [] = l1 := by decide
 simp only [e]
 exact qKj full0 (by decide) ok1 (by decide) (by decide)
theorem put2 : changed (putT (it 2)) 2 s1 1 16 = .ok (s2, 2) := by
 rw [qHQ (l := l1) (by decide) (by decide) rfl ok1, show putT (it 2) l1 = l2 by decide]
 exact qKj full1 (by decide) ok2 (by decide) (by decide)
theorem put3 : changed (putT (it 3)) 3 s2 2 16 = .ok (s3, 3) := by
 rw [qHQ (l := l2) (by decide) (by decide) rfl ok2, show putT (it 3) l2 = l3 by decide]
 exact qKj full2 (by decide) ok3 (by decide) (by decide)
theorem put4 : changed (putT (it 4)) 4 s3 3 16 = .ok (s4, 6) := by
 rw [qHQ (l := l3) (by decide) (by decide) rfl ok3, show putT (it 4) l3 = la ++ lb by decide]
 have f4 : Full (s3 ++ [enc (la, [])]) := full3.more oka
 have f5 : Full (s3 ++ [enc (la, [])] ++ [enc (lb, [])]) := f4.more okb
 have hg : groups 3 (la ++ lb) = [la, lb] := by decide
 have e1 : lay s3 (la ++ lb, []) = .ok (s3 ++ [enc (la, [])] ++ [enc (lb, [])], [(1, 4), (3, 5)]) := by
  unfold lay
  simp only [hg, layG, leafOver, full3.add (by decide) oka, f4.add (by decide) okb, List.nil_append]
  rfl
 have hg2 : groups 4 ([(1, 4), (3, 5)] : List Brn) = [[(1, 4), (3, 5)]] := by decide
 have e2 : lay (s3 ++ [enc (la, [])] ++ [enc (lb, [])]) ([], [(1, 4), (3, 5)]) = .ok (s4, [(1, 6)]) := by
  unfold lay
  have e3 : over ([(1, 4), (3, 5)] : List Brn) = nt := by decide
  have hg0 : groups 3 ([] : List Itm) = [] := by decide
  simp only [hg0, layG, hg2, e3, f5.add (by decide) okt, List.nil_append]
  rfl
 unfold rootOf
 rw [if_pos (.inl (by decide))]
 simp only [e1]
 unfold rootOf
 rw [if_pos (.inr (by decide))]
 simp only [e2]
 unfold rootOf
 rw [if_neg (by simp)]
 rfl
theorem nod_s4 : nod s4 4 = (la, []) ∧ nod s4 5 = (lb, []) ∧ nod s4 6 = nt := ⟨(q4J oka).2, (q4J okb).2, (q4J okt).2⟩
theorem whole4 : z0x s4 6 2 := by
 obtain ⟨e4, e5, e6⟩ := nod_s4
 have g6 : good s4 6 none none = true := by
  unfold good
  rw [show page s4 6 = enc nt from rfl, (q4J okt).1, e6]
  decide
 have g4 : good s4 4 none (some 3) = true := by
  unfold good
  rw [show page s4 4 = enc (la, []) from rfl, (q4J oka).1, e4]
  decide
 have g5 : good s4 5 (some 3) none = true := by
  unfold good
  rw [show page s4 5 = enc (lb, []) from rfl, (q4J okb).1, e5]
  decide
 refine ⟨by decide, by decide, ?_, ?_⟩
 · unfold Fit
   rw [if_neg (by decide), e6]
   refine ⟨by decide, g6, by decide, fun i h => ?_⟩
   have hi : i = 0 ∨ i = 1 := by
    have : nt.2.length = 2 := rfl
    omega
   rcases hi with rfl | rfl
   · unfold Fit
     rw [if_pos rfl]
     refine ⟨show (1 : Int) ≤ 4 ∧ (4 : Int) ≤ s4.length by decide, g4, ?_⟩
     show (nod s4 4).2 = []
     rw [e4]
   · unfold Fit
     rw [if_pos rfl]
     refine ⟨show (1 : Int) ≤ 5 ∧ (5 : Int) ≤ s4.length by decide, g5, ?_⟩
     show (nod s4 5).2 = []
     rw [e5]
 · have : pgs s4 2 6 = [6, 4, 5] := by
    unfold pgs
    rw [e6]
    show (6 : Int) :: ([4, 5] : List Int).flatMap (pgs s4 1) = _
    simp only [List.flatMap_cons, List.flatMap_nil, pgs, e4, e5]
    rfl
   rw [this]
   decide
theorem pgs4 : pgs s4 2 6 = [6, 4, 5] := by
 obtain ⟨e4, e5, e6⟩ := nod_s4
 unfold pgs
 rw [e6]
 show (6 : Int) :: ([4, 5] : List Int).flatMap (pgs s4 1) = _
 simp only [List.flatMap_cons, List.flatMap_nil, pgs, e4, e5]
 rfl
theorem its4 : its s4 2 6 = la ++ lb := by
 obtain ⟨e4, e5, e6⟩ := nod_s4
 unfold its
 rw [e6, if_neg (by decide)]
 show ([4, 5] : List Int).flatMap (its s4 1) = _
 simp only [List.flatMap_cons, List.flatMap_nil, its, e4, e5]
 rfl
theorem read4 : readE s4 6 = 0 ∧ readI s4 6 = la ++ lb ∧ readP s4 6 = [4, 5, 6] := by
 obtain ⟨h1, h2, h3⟩ := qBz (s := s4) (by decide) whole4
 refine ⟨h1, h2.trans its4, h3.trans ?_⟩
 rw [pgs4]
 rfl
end Tr
open Go.RowKit
namespace Tr
def stage : Nat → Pgs × Int
 | 0 => ([], 0)
 | 1 => (s1, 1)
 | 2 => (s2, 2)
 | 3 => (s3, 3)
 | _ => (s4, 6)
theorem qXj {x : Itm} {s s' : Pgs} {root r : Int} (h : readE s root = 0) (hc : changed (putT x) x.1 s root 16 = .ok (s', r)) : putR x s root = .ok (s', r) := by
 unfold putR
 rw [if_pos h]
 exact hc
theorem stage0 : putR (it 1) [] 0 = .ok (s1, 1) := qXj rfl put1
theorem stage1 : putR (it 2) s1 1 = .ok (s2, 2) := qXj (qXz stage0).2.ok_ put2
theorem stage2 : putR (it 3) s2 2 = .ok (s3, 3) := qXj (qXz stage1).2.ok_ put3
theorem stage3 : putR (it 4) s3 3 = .ok (s4, 6) := qXj (qXz stage2).2.ok_ put4
theorem stage_step {k : Nat} (hk : k < 4) : putR (UInt64.ofNat (k + 1), 0) (stage k).1 (stage k).2 = .ok (stage (k + 1)) := by
 obtain rfl | rfl | rfl | rfl : k = 0 ∨ k = 1 ∨ k = 2 ∨ k = 3 := by omega
 · exact stage0
 · exact stage1
 · exact stage2
 · exact stage3
theorem stage_root (k : Nat) : 0 ≤ (stage k).2 ∧ (stage k).2 ≤ 6 := by
 match k with
 | 0 => decide
 | 1 => decide
 | 2 => decide
 | 3 => decide
 | _ + 4 => exact ⟨by show (0 : Int) ≤ 6; decide, by show (6 : Int) ≤ 6; decide⟩
end Tr
theorem alivePut_u (w : World) (P : Nat → Prop) (k : Nat) (hk : k < 4) (I : Int) (hI : I = (k : Int) + 1) (pa : Option Addr) (n pc : Nat) (hR : rSectors.rd w P [.slice pa n pc] (Tr.stage k).1) (r : Int) (hr : r = (Tr.stage k).2) :
 Calls Tryz.prog 15 #[.agg #[.slice pa n pc], .int .i64 r, .agg #[.int .u64 I, .int .u64 0]] w fun e w' => ∃ pa' n' pc', e = .returned (.tuple #[.agg #[.slice pa' n' pc'], .int .i64 (Tr.stage (k + 1)).2, .int .i64 0]) ∧ rSectors.rd w' (fun b => w.heap.size ≤ b) [.slice pa' n' pc'] (Tr.stage (k + 1)).1 ∧ Below w.heap.size w w' := by
 obtain rfl : n = (Tr.stage k).1.length := (q0x hR).1.symm
 subst hr
 have hs := Tr.stage_root k
 have h := Put_u w P (Tr.stage k).1 (Tr.stage k).2 (UInt64.ofNat (k + 1), 0) pa pc hR (by omega) (by omega)
 have e1 : (((UInt64.ofNat (k + 1), (0 : UInt64)) : Itm).1.toNat : Int) = I := by
  rw [hI]
  show ((UInt64.ofNat (k + 1)).toNat : Int) = _
  rw [UInt64.toNat_ofNat']
  omega
 rw [e1] at h
 refine h.mono ?_
 rintro e w' ⟨b, -, h2⟩
 obtain ⟨a, c, rfl, hr', -⟩ := h2 _ _ (Tr.stage_step hk)
 exact ⟨a, _, c, rfl, hr', b⟩
theorem q7x (n : Int) (w : World) : Calls Tryz.prog 10 #[.int .i64 n] w fun e w' => e = .returned (.int .i64 n) ∧ w = w' := by
 go_enter Tryz.func10, Tryz.ntmps10
 go_wp2
 go_ret
 exact ⟨rfl, rfl⟩
theorem z0z (w : World) : Calls Tryz.prog 9 #[] w fun e w' => e = .returned (.bool true) ∧ Below w.heap.size w w' := by
 obtain ⟨w1, hw1, V1, b1, z1⟩ := q0q w 26 [.slice none 0 0]
 have R1 : Hid _ := V1
 have B1 : Hid _ := b1
 have D1 : Hid (rSectors.rd w1 (fun b => w.heap.size ≤ b) [.slice none 0 0] (Tr.stage 0).1) := ⟨none, 0, 0, rfl, rfl, Nat.zero_le _, fun _ => rfl, by decide, fun x hx j hj => by cases hj⟩
 clear V1 b1 z1
 go_enter Tryz.func9, Tryz.ntmps9
 go_wp2
 go_loopw [2, 3] (fun r i wr => ∃ (k : Nat) (I R : Int) (pa : Option Addr) (n pc : Nat), i = .int .i64 I ∧ r = .int .i64 R ∧ Hid (I = (k : Int) + 1) ∧ k ≤ 4 ∧ Hid (R = (Tr.stage k).2) ∧ Hid (Row wr w.heap.size 26 [.slice pa n pc]) ∧ Hid (rSectors.rd wr (fun b => w.heap.size ≤ b) [.slice pa n pc] (Tr.stage k).1) ∧ Hid (Below w.heap.size w wr)) (fun _ i _ => (5 - intOf i).toNat)
 case atStart => exact ⟨0, 1, 0, none, 0, 0, rfl, rfl, rfl, by omega, rfl, R1, D1, B1⟩
 case round =>
  clear R1 D1 B1
  obtain ⟨k, I, R, pa, n, pc, rfl, rfl, HI, hk4, HR, HV, HD, HB⟩ := hrel
  have c0 := HV.out.cell (j := 0) rfl
  have f0 := HV.out.frozen 0
  by_cases hk : k < 4
  · have hI4 : I ≤ 4 := by have := HI.out; omega
    have hI1 : 1 ≤ I := by have := HI.out; omega
    have hIw : IntKind.u64.wrap I = I := by rw [IntKind.wrap_u64]; omega
    have hIa : IntKind.i64.wrap (I + 1) = I + 1 := by rw [IntKind.wrap_i64]; omega
    have HK : Hid _ := hk
    go_wp2_with fail
    go_at_call 15
    refine (alivePut_u wr _ k HK.out I HI.out pa n pc HD.out R HR.out).mono ?_
    rintro e w3 ⟨pa', n', pc', rfl, hd3, b3⟩
    obtain ⟨R', hR'⟩ : ∃ R', R' = (Tr.stage (k + 1)).2 := ⟨_, rfl⟩
    rw [← hR']
    have HR' : Hid (R' = (Tr.stage (k + 1)).2) := hR'
    obtain ⟨w4, hw4, V4, b4, z4⟩ := q0q w3 26 [.slice pa' n' pc']
    have c4 := V4.cell (j := 0) rfl
    have HV4 : Hid _ := (HV.out.below b3).below b4
    have HD4 : Hid (rSectors.rd w4 (fun b => wr.heap.size ≤ b) [.slice pa' n' pc'] (Tr.stage (k + 1)).1) := Rep.below hd3 b4
    have HB4 : Hid (Below w.heap.size w w4) := on (on HB.out b3) b4
    have HVl : Hid (w.heap.size < wr.heap.size) := HV.out.lt
    have d0 := HV4.out.cell (j := 0) rfl
    have g0 := HV4.out.frozen 0
    clear c0 f0 hd3 b3 b4 V4 z4 hR' HD HV
    go_wp2_with (go_at_call 10; refine (q7x _ _).mono ?_; rintro e w99 ⟨rfl, rfl⟩)
    have HV5 : Hid (Row (w4.setCell ⟨w.heap.size, 0, none⟩ (.slice pa' n' pc')) w.heap.size 26 [.slice pa' n' pc']) := HV4.out.set 0 _
    have K5 : Kept (· ≠ w.heap.size) w4 (w4.setCell ⟨w.heap.size, 0, none⟩ (.slice pa' n' pc')) := (Kept.refl _ _).setCell (p := ⟨w.heap.size, 0, none⟩) (fun h => h rfl) _
    have HD5 : Hid (rSectors.rd (w4.setCell ⟨w.heap.size, 0, none⟩ (.slice pa' n' pc')) (fun b => w.heap.size ≤ b) [.slice pa' n' pc'] (Tr.stage (k + 1)).1) := rSectors.weaken (Rep.kept HD4.out K5 (fun b hb _ => by have h1 : wr.heap.size ≤ b := hb; have h2 := HVl.out; show b ≠ w.heap.size; omega)) (fun b hb _ => by have h1 : wr.heap.size ≤ b := hb; have h2 := HVl.out; show w.heap.size ≤ b; omega)
    have HB5 : Hid (Below w.heap.size w (w4.setCell ⟨w.heap.size, 0, none⟩ (.slice pa' n' pc'))) := HB4.out.setCell (p := ⟨w.heap.size, 0, none⟩) (zw0 _) _
    clear K5
    go_roundw
    case rel => exact ⟨k + 1, I + 1, R', pa', n', pc', rfl, rfl, by unfold Hid; rw [HI.out]; omega, by omega, HR', HV5, HD5, HB5⟩
    case measure => simp only [intOf]; omega
  · obtain rfl : k = 4 := by omega
    obtain rfl : I = 5 := HI.out
    obtain rfl : R = 6 := HR.out
    obtain ⟨h1, h2, h3⟩ := Tr.read4
    have HD6 : Hid (rSectors.rd wr (fun b => w.heap.size ≤ b) [.slice pa n pc] Tr.s4) := HD.out
    obtain rfl : n = Tr.s4.length := (q0x HD6.out).1.symm
    have HRg : Hid _ := trange_u wr _ Tr.s4 6 0 9 pa pc HD6.out (by decide) (by decide) (by decide) (by decide)
    have e9 : Tr.rangeE Tr.s4 6 9 = 0 := by unfold Tr.rangeE; rw [if_pos h1]; rfl
    have e8 : (Tr.rangeL Tr.s4 6 0 9).length = 4 := by unfold Tr.rangeL; rw [if_pos ⟨h1, by decide⟩, h2]; decide
    rw [e9] at HRg
    have HE8 : Hid _ := e8
    clear e9 e8
    go_wp2_with fail
    go_at_call 12
    refine Calls.mono HRg.out ?_
    rintro e w3 ⟨a3, n3, c3, rfl, ho3, b3⟩
    obtain rfl : n3 = 4 := by obtain ⟨p, q, e, -⟩ := ho3.slice; simp only [Value.slice.injEq] at e; rw [e.2.1]; exact HE8.out
    have HV3 : Hid _ := HV.out.below b3
    have HRe : Hid _ := reach_u w3 _ Tr.s4 6 pa pc (Rep.below HD6.out b3) (by decide) (by decide)
    rw [h1] at HRe
    have HP3 : Hid ((Tr.readP Tr.s4 6).length = 3) := by unfold Hid; rw [h3]; rfl
    have B3 : Hid _ := on HB.out b3
    have c3' := HV3.out.cell (j := 0) rfl
    clear ho3 b3 HV HD HB h1 h2 h3 c0 f0
    go_wp2_with fail
    go_at_call 17
    refine Calls.mono HRe.out ?_
    rintro e w4 ⟨a4, n4, c4, rfl, ho4, b4⟩
    obtain rfl : n4 = 3 := by obtain ⟨p, q, e, -⟩ := ho4.slice; simp only [Value.slice.injEq] at e; rw [e.2.1]; exact HP3.out
    have B4 : Hid _ := on B3.out b4
    clear ho4 b4 c3'
    go_wp2_with (go_at_call 10; refine (q7x _ _).mono ?_; rintro e w99 ⟨rfl, rfl⟩)
    go_ret
    exact ⟨rfl, B4.out⟩
end Go.Proofs.YtkbmadoaomoojaaGreat
