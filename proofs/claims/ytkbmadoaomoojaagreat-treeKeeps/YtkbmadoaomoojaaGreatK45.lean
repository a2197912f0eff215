/-
  Facts that the proof rests on, part 46. Conditions: those that each of them names.
-/
import Derived.Test.YtkbmadoaomoojaaGreatK02
import Derived.Test.YtkbmadoaomoojaaGreatK06
import Derived.Test.YtkbmadoaomoojaaGreatK34
import Derived.Test.YtkbmadoaomoojaaGreatK40
import Derived.Test.YtkbmadoaomoojaaGreatK42
import Derived.Test.YtkbmadoaomoojaaGreatK44
namespace Go.Proofs.YtkbmadoaomoojaaGreat
set_option maxRecDepth 20000
open Go.RowKit
set_option linter.unusedVariables false
theorem rSecs_nil (w : World) (P : Nat → Prop) : rSectors.rd w P [.slice none 0 0] [] := ⟨none, 0, 0, rfl, rfl, Nat.zero_le _, fun _ => rfl, by decide, fun x hx j hj => by cases hj⟩
theorem rL_len8 {α : Type} {A : Rep α} {hs : 0 < A.size} {w : World} {P : Nat → Prop} {a : Option Addr} {n c : Nat} {l : List α} (h : (rList A hs).rd w P [.slice a n c] l) : l.length = n ∧ n ≤ c ∧ (a = none → c = 0) ∧ n * A.bytes ≤ 140737488351232 := by
 obtain ⟨a', n', c', e, h1, h2, h3, h4, _⟩ := h
 simp only [List.cons.injEq, Value.slice.injEq, and_true] at e
 obtain ⟨rfl, rfl, rfl⟩ := e
 exact ⟨h1, h2, h3, h4⟩
theorem one_ret2 {Pr : Program} {fn : Func} {p q : Tmp} {ty t : TypeId} {tmps : Array Value} {w2 : World} {b : Nat} {d : TypeDesc} {x0 : Value} (V : Row w2 b t [x0])
 (u0 : Value) (h : fn.results = #[.cell p ty, .tmp q]) (hp : tmps.getD p undef = .pointer (some ⟨b, 0, none⟩))
 (hu : Pr.underlying ty = some d) (hd : d.isRow = true) (hi : (Pr.info? ty).map (·.size) = some 1) {R : Ending → World → Prop}
 (hR : ∀ w', Kept (· ≠ b) w2 w' → R (.returned (.tuple #[.agg #[u0], tmps.getD q undef])) w') :
 bodyPost Pr fn R .ret { tmps := tmps, defers := [] } (w2.setCell ⟨b, 0, none⟩ u0) := by
 have hr := results_rowt (Pr := Pr) (fn := fn) h hp (V.set 0 u0) hu hd hi
 exact bodyPost_ret hr rfl (hR _ ((Kept.refl _ w2).setCell (p := ⟨b, 0, none⟩) (fun h => h rfl) u0))
theorem lit_wf {q : Int} (h : -9223372036854775808 ≤ q ∧ q ≤ 9223372036854775807) : (Lit.int .i64 q).wf = true := by
 simp [Lit.wf]
 have e1 : IntKind.i64.min = -9223372036854775808 := rfl
 have e2 : IntKind.i64.max = 9223372036854775807 := rfl
 omega
theorem KeysAt.look {w : World} {b : Nat} {K : List Int} (h : KeysAt w b K) {q : Int} (hq : -9223372036854775808 ≤ q ∧ q ≤ 9223372036854775807) :
 ∃ x : NodeT, (Instr.lookup 61 (.map (some b)) (.int .i64 q) true).run Tryz.prog w = .ok (.tuple #[nodeV x, .bool (decide (q ∈ K))]) w := by
 obtain ⟨n, D, ho, hh⟩ := h.own
 obtain ⟨v, ps, hr, hv⟩ := World.ownsMap.look_ok ho intKeyed Tryz.underlying61 (zero_node w) (zd := .nil) (zp := []) rfl (Maps.keyOf_int_mk Tryz.underlying3 (lit_wf hq))
 obtain ⟨x, rfl⟩ := nodeR_inv hv
 exact ⟨x, by rw [hh q] at hr; exact hr⟩
theorem KeysAt.len {w : World} {b : Nat} {K : List Int} (h : KeysAt w b K) (ty : TypeId) : (Builtin.len_ #[61] ty #[.map (some b)]).run Tryz.prog w = .ok (.int .i64 (K.length : Int)) w := by
 obtain ⟨n, D, ho, hh⟩ := h.own
 rw [← size_ints ho h.nodup hh]
 exact World.ownsMap.len ho Tryz.underlying61 ty
namespace Tr
theorem kall_append (s : Pgs) : ∀ (rs qs : List Int) (st : List Int × Nat), kall s (rs ++ qs) st = match kall s rs st with | Except.error e => Except.error e | Except.ok st' => kall s qs st'
 | [], qs, st => rfl
 | r :: rs, qs, st => by
   show (match kstep s st r with | Except.error e => Except.error e | Except.ok st' => kall s (rs ++ qs) st') = match (match kstep s st r with | Except.error e => Except.error e | Except.ok st' => kall s rs st') with | Except.error e => Except.error e | Except.ok st' => kall s qs st'
   cases hq : kstep s st r with
   | error e => rfl
   | ok st' => exact kall_append s rs qs st'
theorem kall_stop {s : Pgs} {roots : List Int} {i : Nat} (hi : i < roots.length) {st : List Int × Nat} {e : Int} (h : kall s (roots.take i) ([], 0) = .ok st) (hk : kstep s st roots[i] = .error e) : kall s roots ([], 0) = .error e := by
 have e1 : roots = roots.take i ++ (roots[i] :: roots.drop (i + 1)) := by rw [List.getElem_cons_drop, List.take_append_drop]
 rw [e1, kall_append, h]
 show (match kstep s st roots[i] with | Except.error e => Except.error e | Except.ok st' => _) = _
 rw [hk]
theorem kall_go {s : Pgs} {roots : List Int} {i : Nat} (hi : i < roots.length) {st st' : List Int × Nat} (h : kall s (roots.take i) ([], 0) = .ok st) (hk : kstep s st roots[i] = .ok st') : kall s (roots.take (i + 1)) ([], 0) = .ok st' := by
 rw [List.take_succ_eq_append_getElem hi, kall_snoc, h]
 exact hk
end Tr
theorem IsNode.shape {w : World} {base : Nat} {v : Value} {n : Nod} (h : IsNode w base v n) : ∃ x, v = nodeV x := by
 obtain ⟨ia, il, ic, ka, kl, kc, rfl, -⟩ := h
 exact ⟨(ia, il, ic, ka, kl, kc), rfl⟩
theorem Tr.few_keys {K : List Int} (h : K.Nodup) (hk : ∀ q ∈ K, 1 ≤ q ∧ q ≤ 2048) : K.length ≤ 2048 := by
 have h1 := nodup_sub h (L := (List.range 2048).map (fun i : Nat => (i : Int) + 1)) (fun q hq => List.mem_map.2 ⟨(q - 1).toNat, List.mem_range.2 (by have := hk q hq; omega), by have := hk q hq; omega⟩)
 rw [List.length_map, List.length_range] at h1
 exact h1
theorem OwnsQ.rdP {w : World} {base : Nat} {a : Option Addr} {n c : Nat} {l : Pgs} (h : OwnsQ rBytes 53 w base (fun b => base ≤ b) (.slice a n c) l) (hn : l.length = n) (hl : n ≤ 1000000) : rSectors.rd w (fun b => base ≤ b) [.slice a n c] l := by
 obtain ⟨a', c', e, hr⟩ := OwnsQ.rd (hs := by decide) h (by rw [hn]; show n * 24 ≤ _; omega)
 rw [hn] at e hr
 simp only [Value.slice.injEq, true_and] at e
 obtain ⟨rfl, rfl⟩ := e
 exact rSectors.weaken hr (fun b hb _ => hb.elim id id)
set_option maxHeartbeats 8000000 in
theorem tkeep_u (w : World) (P Q : Nat → Prop) (s : Pgs) (roots : List Int) (pa : Option Addr) (pc : Nat) (ra : Option Addr) (rn rc : Nat) (hR : rSectors.rd w P [.slice pa s.length pc] s) (hK : rKids.rd w Q [.slice ra rn rc] roots) :
 Calls Tryz.prog 7 #[.agg #[.slice pa s.length pc], .slice ra rn rc] w fun e w' => ∃ a n c, e = .returned (.tuple #[.agg #[.slice a n c], .int .i64 (Tr.keepE s roots)]) ∧ rSectors.rd w' (fun b => w.heap.size ≤ b) [.slice a n c] (Tr.keepS s roots) ∧ Below w.heap.size w w' := by
 have hR := rSectors.weaken hR (fun b _ hl => (hl : b < w.heap.size))
 have HRn : Hid (roots.length = rn) := (rL_len8 hK).1
 have HRb0 : Hid (rn * 8 ≤ 140737488351232) := (rL_len8 hK).2.2.2
 obtain ⟨w1, hw1, V1, b1, z1⟩ := boxedRow w 26 [.slice pa s.length pc]
 obtain ⟨w2, hw2, V2, b2, z2⟩ := boxedRow w1 26 [.slice none 0 0]
 have bel : Below w.heap.size w w2 := on b1 b2
 have HZ : Hid (w1.heap.size = w.heap.size + 1 ∧ w2.heap.size = w.heap.size + 2) := by unfold Hid; omega
 have HVt : Hid (Row w2 w.heap.size 26 [.slice pa s.length pc]) := V1.below b2
 have HVp : Hid _ := V2
 have HR : Hid (rSectors.rd w2 (fun b => b < w.heap.size) [.slice pa s.length pc] s) := Rep.below hR bel
 have HK : Hid (rKids.rd w2 Q [.slice ra rn rc] roots) := Rep.below hK bel
 have B2 : Hid _ := bel
 have hmm := @run_makeMap Tryz.prog
 have a0 := HVt.out.cell (j := 0) rfl
 clear V1 V2 b1 b2 z1 z2 bel hR hK
 go_enter Tryz.func7, Tryz.ntmps7
 go_wp2_with fail
 go_at_call 21
 refine (tcheck_u w2 (fun b => b < w.heap.size) s 0 pa pc HR.out (by decide) (by decide)).mono ?_
 rintro e w3 ⟨rfl, b3⟩
 have HVt3 : Hid _ := HVt.out.below b3
 have HVp3 : Hid _ := HVp.out.below b3
 have HR3 : Hid (rSectors.rd w3 (fun b => b < w.heap.size) [.slice pa s.length pc] s) := Rep.below HR.out b3
 have HK3 : Hid (rKids.rd w3 Q [.slice ra rn rc] roots) := Rep.below HK.out b3
 have B3 : Hid _ := on B2.out b3
 have HS3 : Hid (w2.heap.size ≤ w3.heap.size) := b3.size
 clear a0 b3 HVt HVp HR HK
 by_cases hl : 2048 < s.length
 · have hE : Tr.readE s 0 = 3 := by unfold Tr.readE; rw [if_pos hl]
   rw [hE]
   have HE : Hid (Tr.keepE s roots = 3) := by unfold Hid Tr.keepE; rw [if_pos hl]
   have HSk : Hid (Tr.keepS s roots = []) := by unfold Hid Tr.keepS; rw [if_pos hl]
   have g0 := HVp3.out.cell (j := 0) rfl
   have g2 := HVp3.out.frozen 0
   clear hE hl
   go_wp2
   exact one_ret2 HVp3.out _ rfl rfl Tryz.underlying26 rfl (by kernel_rfl) (fun w' k' => ⟨none, 0, 0, by rw [HE.out]; rfl, by rw [HSk.out]; exact rSecs_nil _ _, Kept.belowOf B3.out k' (by have := HZ.out; omega)⟩)
 · have hE : Tr.readE s 0 = 0 := by unfold Tr.readE; rw [if_neg hl, if_pos rfl]
   rw [hE]
   have HL : Hid (¬ 2048 < s.length) := hl
   clear hE hl
   obtain ⟨w4, hw4, M4, b4, z4⟩ : ∃ w4, w3.alloc (.map #[] 0) = w4 ∧ KeysAt w4 w3.heap.size [] ∧ Below w3.heap.size w3 w4 ∧ w4.heap.size = w3.heap.size + 1 := ⟨_, rfl, keysAt_new w3, (Below.refl _ _).alloc (Nat.le_refl _) _, by simp⟩
   have HM4 : Hid (KeysAt w4 w3.heap.size []) := M4
   have B4 : Hid _ := b4
   have HK0 : Hid (Tr.kall s (roots.take 0) ([], 0) = .ok ([], 0)) := by rw [List.take_zero]; rfl
   clear M4 b4 z4
   go_wp2_with fail
   go_loopw [8, 30] (fun rv iv wr => ∃ (i : Nat) (K : List Int) (m : Nat), i ≤ rn ∧ iv = .int .i64 i ∧ rv = .int .i64 m ∧ Hid (Tr.kall s (roots.take i) ([], 0) = .ok (K, m)) ∧ Hid (KeysAt wr w3.heap.size K) ∧ Hid (Below w3.heap.size w3 wr)) (fun _ iv _ => rn - (intOf iv).toNat)
   case atStart => exact ⟨0, [], 0, Nat.zero_le _, rfl, rfl, HK0, HM4, B4⟩
   case round =>
    obtain ⟨i, K, m, hi, rfl, rfl, HKi, HMr, BR⟩ := hrel
    clear HM4 B4 HK0 hw4
    by_cases hin : i < rn
    · skip
      have hir : i < roots.length := by rw [HRn.out]; exact hin
      have hiz : (i : Int) < (rn : Int) := by omega
      obtain ⟨rb, roff, rfl, -, -, hat⟩ := rKids_at (Rep.below HK3.out BR.out) (by omega)
      obtain ⟨hc, hr0, hr1⟩ := hat i hir
      obtain ⟨r, hr⟩ : ∃ r, r = roots[i] := ⟨_, rfl⟩
      rw [← hr] at hc hr0 hr1
      have HRr : Hid (r = roots[i]) := hr
      obtain ⟨x, hlook⟩ := HMr.out.look (q := r) ⟨hr0, hr1⟩
      obtain ⟨xa, xn, xc, ya, yn, yc⟩ := x
      unfold nodeV at hlook
      dsimp only at hlook
      obtain ⟨wa, hwa, Va, ba, za⟩ := boxedRow wr 63 [.slice none 0 0, .slice none 0 0]
      have p0 := Va.cell (j := 0) rfl
      have p1 := Va.cell (j := 1) rfl
      have f0 := Va.frozen 0
      have f1 := Va.frozen 1
      obtain ⟨wb, hwb⟩ : ∃ v, (wa.setCell ⟨wr.heap.size, 0, none⟩ (.slice xa xn xc)).setCell ⟨wr.heap.size, 1, none⟩ (.slice ya yn yc) = v := ⟨_, rfl⟩
      have hbl : Below wr.heap.size wr wb := by rw [← hwb]; exact Kept.belowOf ba (((Kept.refl _ wa).setCell (p := ⟨wr.heap.size, 0, none⟩) (fun h => h rfl) _).setCell (p := ⟨wr.heap.size, 1, none⟩) (fun h => h rfl) _) (Nat.le_refl _)
      have HMb : Hid (KeysAt wb w3.heap.size K) := HMr.out.below hbl
      have BB : Hid _ := on BR.out hbl
      have HVtb : Hid _ := HVt3.out.below BB.out
      have HVpb : Hid _ := HVp3.out.below BB.out
      have HRb : Hid (rSectors.rd wb (fun b => b < w.heap.size) [.slice pa s.length pc] s) := Rep.below HR3.out BB.out
      have HI : Hid (-9223372036854775808 ≤ r ∧ r ≤ 9223372036854775807) := ⟨hr0, hr1⟩
      have HOk := Tr.kall_ok HKi.out List.nodup_nil (fun q hq => by cases hq)
      have HKn : Hid (K.Nodup ∧ (∀ q ∈ K, 1 ≤ q ∧ q ≤ 2048) ∧ m ≤ 0 + 2048 * (roots.take i).length) := HOk
      have hm1 : m ≤ 2048 * i := by have h := HKn.out.2.2; rw [List.length_take] at h; omega
      have hrn8 : rn * 8 ≤ 140737488351232 := HRb0.out
      clear Va ba za hbl HOk hat hr
      by_cases hq : r ∈ K
      · rw [decide_eq_true hq] at hlook
        have hmw : IntKind.i64.wrap ((m : Int) + 1) = ((m + 1 : Nat) : Int) := by rw [IntKind.wrap_i64]; omega
        have HKj : Hid (Tr.kall s (roots.take (i + 1)) ([], 0) = .ok (K, m + 1)) := Tr.kall_go hir HKi.out (by unfold Tr.kstep; rw [← HRr.out, if_pos hq])
        go_wp2_with fail
        go_roundw
        case rel => exact ⟨i + 1, K, m + 1, by omega, by go_num, by go_num, HKj, HMb, BB⟩
        case measure => simp [intOf]; omega
      · rw [decide_eq_false hq] at hlook
        have HQ : Hid (r ∉ K) := hq
        have a1 := HVtb.out.cell (j := 0) rfl
        have HWk : Hid _ := walked_u wb (fun b => b < w.heap.size) s r pa pc HRb.out HI.out.1 HI.out.2
        go_wp2_with fail
        go_at_call 22
        refine Calls.mono HWk.out ?_
        rintro e w5 ⟨b5, hno, hyes⟩
        have B5 : Hid _ := on BB.out b5
        have HM5 : Hid (KeysAt w5 w3.heap.size K) := HMb.out.below b5
        by_cases hE : Tr.readE s r = 0
        · obtain ⟨g, gm, base, k, es, rfl, hW, hA, hbs, hg, hgm, hkm⟩ := hyes hE
          have HE : Hid (Tr.readE s r = 0) := hE
          have HMt : Hid (KeysAt w5 gm (Tr.lmet s r)) := by
           have hn : (es.map Prod.fst).Nodup := by rw [hW.keys]; exact hW.nodup
           have hk : es.map Prod.fst = Tr.lmet s r := hW.keys.trans hkm
           have hll : es.length ≤ 2048 := by have h := (Tr.lmet_in hE).1; rw [← hk, List.length_map] at h; exact h
           have h := IsMet.keysAt hW.met hn (fun z hz => by
            have h := (Tr.lmet_in hE).2 z.1 (by rw [← hk]; exact List.mem_map.2 ⟨z, hz, rfl⟩)
            omega) (fun z hz => IsNode.shape (hW.nodes z hz)) (by omega)
           rw [hk] at h
           exact h
          have HLm : Hid ((Tr.lmet s r).length ≤ 2048) := (Tr.lmet_in hE).1
          have hlen := HMt.out.len
          have c1 := hW.row.cell (j := 1) rfl
          have HGm : Hid (w3.heap.size ≠ gm) := by have h1 := BB.out.size; have h2 := HMb.out.lt; unfold Hid; omega
          obtain ⟨L, hL⟩ : ∃ L, L = (Tr.lmet s r).length := ⟨_, rfl⟩
          rw [← hL] at hlen
          have HLL : Hid (L = (Tr.lmet s r).length) := hL
          have hmw : IntKind.i64.wrap ((m : Int) + (L : Int)) = ((m + L : Nat) : Int) := by have h := HLm.out; rw [← hL] at h; rw [IntKind.wrap_i64]; omega
          have HKj : Hid (Tr.kall s (roots.take (i + 1)) ([], 0) = .ok (K ++ (Tr.lmet s r).filter (fun q => !decide (q ∈ K)), m + L)) := Tr.kall_go hir HKi.out (by unfold Tr.kstep; rw [← HRr.out, if_neg HQ.out, if_pos hE, hL])
          have HKl : Hid (K.length ≤ 2048) := Tr.few_keys HKn.out.1 HKn.out.2.1
          have HCp : Hid _ := keysAt_copy w5 w3.heap.size gm K (Tr.lmet s r) HM5.out HMt.out HGm.out (by have h1 := HKl.out; have h2 := HLm.out; omega)
          clear hno hyes b5 hW hA hbs hg hgm hkm hE hL hwb hwa p0 p1 f0 f1
          go_wp2_with fail
          go_at_call 23
          refine Calls.mono HCp.out ?_
          rintro e w6 ⟨rfl, hk6, g6⟩
          have HK6 : Hid _ := hk6
          have B6 : Hid (Below w3.heap.size w3 w6) := B5.out.grown g6 B5.out.size (fun q hq => by cases hq; exact Nat.le_refl _)
          clear hk6 g6 hlen c1
          go_wp2
          go_roundw
          case rel => exact ⟨i + 1, _, m + L, by omega, by go_num, by go_num, HKj, HK6, B6⟩
          case measure => simp [intOf]; omega
        · obtain ⟨q, rfl⟩ := hno hE
          have hEb : (Tr.readE s r == 0) = false := beq_eq_false_iff_ne.2 hE
          have hEn : (Tr.readE s r != 0) = true := bne_iff_ne.2 hE
          have HSt : Hid (Tr.kall s roots ([], 0) = .error (Tr.readE s r)) := Tr.kall_stop hir HKi.out (by unfold Tr.kstep; rw [← HRr.out, if_neg HQ.out, if_neg hE])
          have HEE : Hid (Tr.keepE s roots = Tr.readE s r) := by unfold Hid Tr.keepE; rw [if_neg HL.out, HSt.out]
          have HSk : Hid (Tr.keepS s roots = []) := by unfold Hid Tr.keepS; rw [if_neg HL.out, HSt.out]
          have HVp5 : Hid _ := HVpb.out.below b5
          have g0 := HVp5.out.cell (j := 0) rfl
          have g2 := HVp5.out.frozen 0
          clear hno hyes b5 hE
          go_wp2
          exact one_ret2 HVp5.out _ rfl rfl Tryz.underlying26 rfl (by kernel_rfl) (fun w' k' => ⟨none, 0, 0, by rw [HEE.out]; rfl, by rw [HSk.out]; exact rSecs_nil _ _, Kept.belowOf (B3.out.trans (B5.out.mono B3.out.size)) k' (by have := HZ.out; omega)⟩)
    · obtain rfl : rn = i := by omega
      obtain ⟨wE, hwE⟩ : ∃ v, v = wr := ⟨_, rfl⟩
      subst hwE
      have hiz : ¬ (rn : Int) < (rn : Int) := by omega
      have HKe : Hid (Tr.kall s roots ([], 0) = .ok (K, m)) := by have h := HKi.out; rw [List.take_of_length_le (by rw [HRn.out]; exact Nat.le_refl _)] at h; exact h
      have hlen := HMr.out.len
      have HVtr : Hid _ := HVt3.out.below BR.out
      have HVpr : Hid _ := HVp3.out.below BR.out
      have HRr : Hid (rSectors.rd wE (fun b => b < w.heap.size) [.slice pa s.length pc] s) := Rep.below HR3.out BR.out
      have HZr : Hid (w3.heap.size ≤ wE.heap.size) := BR.out.size
      have BW : Hid (Below w.heap.size w wE) := B3.out.trans (BR.out.mono B3.out.size)
      clear HKi
      by_cases hKm : K.length < m
      · have hz : (K.length : Int) < (m : Int) := by omega
        have HEE : Hid (Tr.keepE s roots = 6) := by unfold Hid Tr.keepE; rw [if_neg HL.out, HKe.out]; exact if_pos hKm
        have HSk : Hid (Tr.keepS s roots = []) := by unfold Hid Tr.keepS; rw [if_neg HL.out, HKe.out]; exact if_pos hKm
        have g0 := HVpr.out.cell (j := 0) rfl
        have g2 := HVpr.out.frozen 0
        clear hKm
        go_wp2
        exact one_ret2 HVpr.out _ rfl rfl Tryz.underlying26 rfl (by kernel_rfl) (fun w' k' => ⟨none, 0, 0, by rw [HEE.out]; rfl, by rw [HSk.out]; exact rSecs_nil _ _, Kept.belowOf BW.out k' (by have := HZ.out; omega)⟩)
      · have hz : ¬ (K.length : Int) < (m : Int) := by omega
        have HEE : Hid (Tr.keepE s roots = 0) := by unfold Hid Tr.keepE; rw [if_neg HL.out, HKe.out]; exact if_neg hKm
        have HSk : Hid (Tr.keepS s roots = Tr.keepL (fun j => decide ((j : Int) + 1 ∈ K)) s s.length) := by unfold Hid Tr.keepS; rw [if_neg HL.out, HKe.out]; exact if_neg hKm
        obtain ⟨w5, hw5, V5, b5, z5⟩ := boxedRow wE 26 [.slice none 0 0]
        have HV5 : Hid _ := V5
        have K5 : Hid (Kept (fun q => q < wE.heap.size) wE w5) := Kept.below b5
        have HM5 : Hid (KeysAt w5 w3.heap.size K) := HMr.out.below b5
        have HZ5 : Hid (w5.heap.size = wE.heap.size + 1) := z5
        have HO5 : Hid (OwnsQ rBytes 53 w5 w5.heap.size (fun b => w5.heap.size ≤ b) (.slice none 0 0) (Tr.keepL (fun j => decide ((j : Int) + 1 ∈ K)) s 0)) := OwnsQ.nilP _ _ _
        have t0 := (HVtr.out.below b5).cell (j := 0) rfl
        have hsl : s.length ≤ 2048 := by have h := HL.out; omega
        have HG : Hid (w3.heap.size < wE.heap.size) := HMr.out.lt
        clear V5 b5 z5 hKm
        go_wp2_with fail
        go_loopw [75] (fun iv wr => ∃ (i : Nat) (oa : Option Addr) (ol oc : Nat), i ≤ s.length ∧ iv = .int .i64 i ∧ Hid (ol = (Tr.keepL (fun j => decide ((j : Int) + 1 ∈ K)) s i).length) ∧ Hid (Row wr wE.heap.size 26 [.slice oa ol oc]) ∧ Hid (OwnsQ rBytes 53 wr w5.heap.size (fun b => w5.heap.size ≤ b) (.slice oa ol oc) (Tr.keepL (fun j => decide ((j : Int) + 1 ∈ K)) s i)) ∧ Hid (KeysAt wr w3.heap.size K) ∧ Hid (Kept (fun q => q < wE.heap.size) wE wr)) (fun iv _ => s.length - (intOf iv).toNat)
        case atStart => exact ⟨0, none, 0, 0, Nat.zero_le _, rfl, rfl, HV5, HO5, HM5, K5⟩
        case round =>
         obtain ⟨i, oa, ol, oc, hi, rfl, HLo, HVo, HO, HMz, KZ⟩ := hrel
         clear HV5 HO5 HM5 K5 t0 hw5 hlen
         have HVtz : Hid (Row wr w.heap.size 26 [.slice pa s.length pc]) := HVtr.out.keep (KZ.out.block _ HVtr.out.lt)
         have HVpz : Hid (Row wr w1.heap.size 26 [.slice none 0 0]) := HVpr.out.keep (KZ.out.block _ HVpr.out.lt)
         have HRz : Hid (rSectors.rd wr (fun b => b < w.heap.size) [.slice pa s.length pc] s) := Rep.kept HRr.out KZ.out (fun q hq hl => hl)
         by_cases hil : i < s.length
         · have hiz : (i : Int) < (s.length : Int) := by omega
           obtain ⟨pb, poff, rfl, -, -, hat⟩ := rLists_at HRz.out (by omega)
           obtain ⟨x, xl, xd, hx, hxl, hcell⟩ := hat i hil
           obtain ⟨X, hX⟩ : ∃ X, X = s[i] := ⟨_, rfl⟩
           rw [← hX] at hx hxl
           have HXs : Hid (X = s[i]) := hX
           have HX : Hid (rBytes.rd wr (fun b => b < w.heap.size) [.slice x xl xd] X) := hx
           obtain ⟨nx, hlook⟩ := HMz.out.look (q := (i : Int) + 1) (by omega)
           obtain ⟨xa, xn, xc, ya, yn, yc⟩ := nx
           unfold nodeV at hlook
           dsimp only at hlook
           obtain ⟨wa, hwa, Va, ba, za⟩ := boxedRow wr 63 [.slice none 0 0, .slice none 0 0]
           have p0 := Va.cell (j := 0) rfl
           have p1 := Va.cell (j := 1) rfl
           have f0 := Va.frozen 0
           have f1 := Va.frozen 1
           obtain ⟨wb, hwb⟩ : ∃ v, (wa.setCell ⟨wr.heap.size, 0, none⟩ (.slice xa xn xc)).setCell ⟨wr.heap.size, 1, none⟩ (.slice ya yn yc) = v := ⟨_, rfl⟩
           have hbl : Below wr.heap.size wr wb := by rw [← hwb]; exact Kept.belowOf ba (((Kept.refl _ wa).setCell (p := ⟨wr.heap.size, 0, none⟩) (fun h => h rfl) _).setCell (p := ⟨wr.heap.size, 1, none⟩) (fun h => h rfl) _) (Nat.le_refl _)
           have HMb : Hid (KeysAt wb w3.heap.size K) := HMz.out.below hbl
           have HVob : Hid _ := HVo.out.below hbl
           have KB : Hid (Kept (fun q => q < wE.heap.size) wE wb) := KZ.out.on (fun q hq => Nat.lt_of_lt_of_le hq KZ.out.size) hbl
           have HOb : Hid (OwnsQ rBytes 53 wb w5.heap.size (fun b => w5.heap.size ≤ b) (.slice oa ol oc) (Tr.keepL (fun j => decide ((j : Int) + 1 ∈ K)) s i)) := HO.out.below hbl
           have HXb : Hid (rBytes.rd wb (fun b => b < w.heap.size) [.slice x xl xd] X) := Rep.below HX.out hbl
           have HSz : Hid (w5.heap.size ≤ wb.heap.size) := by have h1 := HVo.out.lt; have h2 := HZ5.out; have h3 := hbl.size; unfold Hid at h2 ⊢; omega
           have q0 := HVtz.out.cell (j := 0) rfl
           clear Va ba za hbl hx hX hat
           by_cases hq : (i : Int) + 1 ∈ K
           · rw [decide_eq_true hq] at hlook
             have hol : ol ≤ i := by have h1 := HLo.out; have h2 := Tr.keepL_len (fun j => decide ((j : Int) + 1 ∈ K)) s i; omega
             have HY : Hid (Tr.keepL (fun j => decide ((j : Int) + 1 ∈ K)) s (i + 1) = Tr.keepL (fun j => decide ((j : Int) + 1 ∈ K)) s i ++ List.replicate (i - ol) [] ++ [X]) := by
              unfold Hid
              rw [HLo.out, HXs.out]
              exact Tr.keepL_yes (decide_eq_true (hq)) hil
             obtain ⟨kk, hkk⟩ : ∃ kk, kk = i - ol := ⟨_, rfl⟩
             rw [← hkk] at HY
             have hsub : IntKind.i64.wrap ((i : Int) - (ol : Int)) = (kk : Int) := by rw [IntKind.wrap_i64]; omega
             have hk1 : 24 * kk ≤ 281474976710656 := by omega
             have hk2 : kk ≤ 9223372036854775807 := by omega
             have hk3 : kk ≤ 2048 := by omega
             have hol2 : ol ≤ 2048 := by omega
             clear hkk
             have o0 := HVob.out.cell (j := 0) rfl
             go_wp2_with (first
              | (at_make; refine make_row _ rfl _ _ 22 rfl 53 (.slice none 0 0) 24 Tryz.underlying22 info_bytes rfl kk _ rfl rfl rfl hk1 hk2 ?_
                 intro w7 HRw b7 z7
                 have HF : Hid (rSectors.rd w7 (fun b => b = wb.heap.size) [.slice (some ⟨wb.heap.size, 0, none⟩) kk kk] (List.replicate kk [])) := rSecs_zeros rfl HRw.out (by omega)
                 have HO7 : Hid (OwnsQ rBytes 53 w7 w5.heap.size (fun b => w5.heap.size ≤ b) (.slice oa ol oc) (Tr.keepL (fun j => decide ((j : Int) + 1 ∈ K)) s i)) := HOb.out.below b7
                 obtain ⟨v8, w8, hr8, ho8, g8, hv8⟩ := run_append_secs HO7.out HF.out (fun b hb _ => ⟨by have h1 := HSz.out; have h2 : b = wb.heap.size := hb; show w5.heap.size ≤ b; omega, fun e => by have h1 := (HOb.out.row b e).2; have h2 : b = wb.heap.size := hb; omega⟩) (by rw [← HLo.out]; omega) (by have h1 := HSz.out; have h2 := b7.size; omega) 22
                 have HR8 : Hid _ := hr8
                 have HO8 : Hid (OwnsQ rBytes 53 w8 w5.heap.size (fun b => w5.heap.size ≤ b) v8 (Tr.keepL (fun j => decide ((j : Int) + 1 ∈ K)) s i ++ List.replicate kk [])) := ho8
                 have K8 : Hid (Kept (fun q => q < w5.heap.size) wb w8) := ((Kept.below b7).mono (fun q hq => Nat.lt_of_lt_of_le hq HSz.out)).grown g8 (fun q hq => Nat.lt_of_lt_of_le (Nat.lt_of_lt_of_le hq HSz.out) b7.size) (fun q hs hq => by have h1 := (HOb.out.row q hs).1; have h2 : q < w5.heap.size := hq; omega)
                 have HV8 : Hid (v8.ownBlock = (Value.slice oa ol oc).ownBlock ∨ v8.ownBlock = some w7.heap.size) := hv8
                 have S8 : Hid (w5.heap.size ≤ w8.heap.size ∧ w7.heap.size ≤ w8.heap.size) := ⟨Nat.le_trans HSz.out (Nat.le_trans b7.size g8.size), g8.size⟩
                 have o7 := (HVob.out.below b7).cell (j := 0) rfl
                 clear hr8 ho8 g8 hv8 HRw b7 z7)
              | (at_builtin; refine Lib.wpList_append_run _ rfl _ _ _ _ rfl _ _ rfl rfl _ _ HR8.out ?_))
             have HX8 : Hid (rBytes.rd w8 (fun b => b < w.heap.size) [.slice x xl xd] X) := Rep.kept HXb.out K8.out (fun q hq _ => by have h1 := BW.out.size; have h2 := HZ5.out; have h3 : q < w.heap.size := hq; show q < w5.heap.size; unfold Hid at h2; omega)
             go_at_call 24
             refine (clone_u w8 x xl xd X (rBytes_isB HX8.out).1 (by have := (rBytes_isB HX8.out).2.2.2; omega)).mono ?_
             rintro e w9 ⟨ca, cc, rfl, hoc, b9⟩
             have HC9 : Hid (rBytes.rd w9 (fun b => w8.heap.size ≤ b) [.slice ca xl cc] X) := rBytes_owned hoc (by have := (rBytes_isB HX8.out).2.2.2; omega)
             obtain ⟨w10, hw10, V10, b10, z10⟩ := boxedRow w9 53 [.slice ca xl cc]
             have hll : (Tr.keepL (fun j => decide ((j : Int) + 1 ∈ K)) s i ++ List.replicate kk ([] : List UInt8)).length ≤ 5000 := by rw [List.length_append, List.length_replicate, ← HLo.out]; omega
             obtain ⟨q11, d11, w11, hr11, ho11, g11, hv11⟩ := run_append_q (ty := 22) elem_sec8 ((HO8.out.below b9).below b10) (ad := ⟨w9.heap.size, 0, none⟩) (c := [.slice ca xl cc]) (x := X) (fun j u hj => by rw [Addr.add_lit, Nat.zero_add]; exact V10.cell hj) (rBytes.weaken (Rep.below HC9.out b10) (fun b hb _ => by
              have h1 : w8.heap.size ≤ b := hb
              exact ⟨by have h2 := S8.out.1; show w5.heap.size ≤ b; omega, fun e => by have h2 := (HO8.out.row b e).2; omega⟩)) (by show _ * 24 ≤ _; omega) (by unfold maxLen; omega) (by have h1 := S8.out.1; have h2 := b9.size; have h3 := b10.size; omega)
             obtain ⟨n11, hn11⟩ : ∃ z, z = (Tr.keepL (fun j => decide ((j : Int) + 1 ∈ K)) s i ++ List.replicate kk ([] : List UInt8)).length + 1 := ⟨_, rfl⟩
             rw [← hn11] at hr11 ho11 hv11
             have HL11 : Hid (n11 = (Tr.keepL (fun j => decide ((j : Int) + 1 ∈ K)) s (i + 1)).length) := by unfold Hid; rw [HY.out, List.length_append, hn11]; rfl
             rw [← HY.out] at ho11
             have HR11 : Hid _ := hr11
             have K11 : Hid (Kept (fun q => q < w5.heap.size) wb w11) := (((K8.out.on (fun q hq => Nat.lt_of_lt_of_le hq S8.out.1) b9).on (fun q hq => Nat.lt_of_lt_of_le (Nat.lt_of_lt_of_le hq S8.out.1) b9.size) b10)).grown g11 (fun q hq => Nat.lt_of_lt_of_le (Nat.lt_of_lt_of_le (Nat.lt_of_lt_of_le hq S8.out.1) b9.size) b10.size) (fun q hs hq => by have h1 := (HO8.out.row q hs).1; have h2 : q < w5.heap.size := hq; omega)
             have HV11 : Hid (Row w11 wE.heap.size 26 [.slice oa ol oc]) := HVob.out.keep (K11.out.block _ (by have h2 := HZ5.out; unfold Hid at h2; show wE.heap.size < w5.heap.size; omega))
             have HB11 : Hid (∀ b, (Value.slice q11 n11 d11).ownBlock = some b → w5.heap.size ≤ b) := fun b e => (ho11.row b e).1
             obtain ⟨w12, hw12⟩ : ∃ v, w11.setCell ⟨wE.heap.size, 0, none⟩ (.slice q11 n11 d11) = v := ⟨_, rfl⟩
             have KX : Kept (· ≠ wE.heap.size) w11 w12 := by rw [← hw12]; exact (Kept.refl _ w11).setCell (p := ⟨wE.heap.size, 0, none⟩) (fun h => h rfl) _
             have HV12 : Hid (Row w12 wE.heap.size 26 [.slice q11 n11 d11]) := by rw [← hw12]; exact HV11.out.set 0 _
             have HO12 : Hid (OwnsQ rBytes 53 w12 w5.heap.size (fun b => w5.heap.size ≤ b) (.slice q11 n11 d11) (Tr.keepL (fun j => decide ((j : Int) + 1 ∈ K)) s (i + 1))) := ho11.keepK8 KX (fun b hb => by have h2 := HZ5.out; have h3 : w5.heap.size ≤ b := hb; unfold Hid at h2; show b ≠ wE.heap.size; omega) (fun b e => by have h1 := HB11.out b e; have h2 := HZ5.out; unfold Hid at h2; show b ≠ wE.heap.size; omega)
             have K12 : Hid (Kept (fun q => q < wE.heap.size) wE w12) := KB.out.trans ((K11.out.mono (fun q hq => by have h2 := HZ5.out; have h3 : q < wE.heap.size := hq; unfold Hid at h2; show q < w5.heap.size; omega)).trans (KX.mono (fun q hq => by have h3 : q < wE.heap.size := hq; show q ≠ wE.heap.size; omega)))
             have HM12 : Hid (KeysAt w12 w3.heap.size K) := HMr.out.keep (K12.out.block _ HG.out)
             have x0 := HV11.out.cell (j := 0) rfl
             have x1 := HV11.out.frozen 0
             clear hr11 ho11 g11 hv11 KX V10 b10 z10 b9 hoc hll hn11
             go_wp2_with (at_builtin; refine Lib.wpList_append_run _ rfl _ _ _ _ rfl _ _ rfl rfl _ _ HR11.out ?_)
             go_roundw
             case rel => exact ⟨i + 1, q11, n11, d11, by omega, by go_num, HL11, HV12, HO12, HM12, K12⟩
             case measure => simp [intOf]; omega
           · rw [decide_eq_false hq] at hlook
             have HN : Hid (Tr.keepL (fun j => decide ((j : Int) + 1 ∈ K)) s (i + 1) = Tr.keepL (fun j => decide ((j : Int) + 1 ∈ K)) s i) := Tr.keepL_no (decide_eq_false (hq))
             go_wp2_with fail
             go_roundw
             case rel => exact ⟨i + 1, oa, ol, oc, by omega, by go_num, by unfold Hid; rw [HN.out]; exact HLo.out, HVob, by unfold Hid; rw [HN.out]; exact HOb.out, HMb, KB⟩
             case measure => simp [intOf]; omega
         · obtain rfl : i = s.length := by omega
           have hiz : ¬ (s.length : Int) < (s.length : Int) := by omega
           have o0 := HVo.out.cell (j := 0) rfl
           have g0 := HVpz.out.cell (j := 0) rfl
           have g2 := HVpz.out.frozen 0
           go_wp2
           exact one_ret2 HVpz.out _ rfl rfl Tryz.underlying26 rfl (by kernel_rfl) (fun w' k' => ⟨oa, ol, oc, by rw [HEE.out]; rfl, by
            rw [HSk.out]
            have h := OwnsQ.rdP HO.out HLo.out.symm (by have h1 := Tr.keepL_len (fun j => decide ((j : Int) + 1 ∈ K)) s s.length; have h2 := HLo.out; omega)
            exact rSectors.weaken (Rep.kept h k' (fun q hq hl => by have h1 := HZ.out; have h2 := HZ5.out; have h3 := HZr.out; have h4 := HS3.out; have h5 : w5.heap.size ≤ q := hq; show q ≠ w1.heap.size; unfold Hid at h1 h2 h3; omega)) (fun q hq _ => by have h2 := HZ5.out; have h3 := BW.out.size; have h5 : w5.heap.size ≤ q := hq; show w.heap.size ≤ q; unfold Hid at h2; omega),
            Kept.belowOf (Kept.toBelow ((Kept.below BW.out).trans (KZ.out.mono (fun q hq => by have h1 := BW.out.size; have h2 : q < w.heap.size := hq; show q < wE.heap.size; omega)))) k' (by have := HZ.out; omega)⟩)
end Go.Proofs.YtkbmadoaomoojaaGreat
