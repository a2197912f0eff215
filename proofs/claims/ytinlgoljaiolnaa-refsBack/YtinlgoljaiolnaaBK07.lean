/-
  Facts that the proof rests on, part 8. Conditions: those that each of them names.
-/
import Derived.BigRegion
import Derived.Deep.RegionHeldLaw
import Derived.Lib.AppendZeros
import Derived.Test.YtinlgoljaiolnaaBK01
import Derived.Test.YtinlgoljaiolnaaBK04
import Derived.Test.YtinlgoljaiolnaaBK06
namespace Go.Proofs.Ytinlgoljaiolnaa
open Go.RowKit
set_option linter.unusedVariables false
def Rf.Sm (y : Cnr) : Prop := 0 ≤ y.1 ∧ 0 ≤ y.2.1 ∧ y.1 + y.2.1 ≤ 65536 ∧ -100000 ≤ y.2.2 ∧ y.2.2 ≤ 100000
theorem Rf.Sm.in3 {y : Cnr} (h : Rf.Sm y) : In3 y := by unfold Rf.Sm at h; unfold In3 In64; omega
theorem Rf.lay_stay {out : List Cnr} {a n t : Int} (h : n = 0 ∨ a = t) : Rf.lay out a n t = out := if_pos h
theorem Rf.lay_first {a n t : Int} (h : ¬ (n = 0 ∨ a = t)) : Rf.lay [] a n t = [(a, t - a, n)] := by unfold Rf.lay; rw [if_neg h]; rfl
theorem Rf.lay_grow {m : List Cnr} {y : Cnr} {a n t : Int} (h : ¬ (n = 0 ∨ a = t)) (k : y.1 + y.2.1 = a ∧ y.2.2 = n) : Rf.lay (m ++ [y]) a n t = m ++ [(y.1, y.2.1 + (t - a), y.2.2)] := by
  unfold Rf.lay
  rw [if_neg h, show (m ++ [y]).getLast? = some y by simp]
  simp only
  rw [if_pos k, List.dropLast_concat]
theorem Rf.lay_new {m : List Cnr} {y : Cnr} {a n t : Int} (h : ¬ (n = 0 ∨ a = t)) (k : ¬ (y.1 + y.2.1 = a ∧ y.2.2 = n)) : Rf.lay (m ++ [y]) a n t = m ++ [y] ++ [(a, t - a, n)] := by
  unfold Rf.lay
  rw [if_neg h, show (m ++ [y]).getLast? = some y by simp]
  simp only
  rw [if_neg k]
theorem Rf.lay_sm {out : List Cnr} {a n t : Int} (hs : ∀ y ∈ out, Rf.Sm y) (h0 : 0 ≤ a) (h1 : a ≤ t) (h2 : t ≤ 65536) (h3 : -100000 ≤ n) (h4 : n ≤ 100000) : ∀ y ∈ Rf.lay out a n t, Rf.Sm y := by
  by_cases h : n = 0 ∨ a = t
  · rw [Rf.lay_stay h]; exact hs
  · have hnew : Rf.Sm (a, t - a, n) := by unfold Rf.Sm; simp only; omega
    rcases List.eq_nil_or_concat out with rfl | ⟨m, y, e⟩
    · rw [Rf.lay_first h]
      intro y hy
      rw [List.mem_singleton.1 hy]
      exact hnew
    · rw [List.concat_eq_append] at e
      subst e
      by_cases k : y.1 + y.2.1 = a ∧ y.2.2 = n
      · rw [Rf.lay_grow h k]
        intro z hz
        rcases List.mem_append.1 hz with hz | hz
        · exact hs z (by simp [hz])
        · rw [List.mem_singleton.1 hz]
          have := hs y (by simp)
          unfold Rf.Sm at *
          simp only
          omega
      · rw [Rf.lay_new h k]
        intro z hz
        rcases List.mem_append.1 hz with hz | hz
        · exact hs z hz
        · rw [List.mem_singleton.1 hz]; exact hnew
theorem Rf.lay_len (out : List Cnr) (a n t : Int) : (Rf.lay out a n t).length ≤ out.length + 1 := by
  by_cases h : n = 0 ∨ a = t
  · rw [Rf.lay_stay h]; omega
  · rcases List.eq_nil_or_concat out with rfl | ⟨m, y, e⟩
    · rw [Rf.lay_first h]; simp
    · rw [List.concat_eq_append] at e
      subst e
      by_cases k : y.1 + y.2.1 = a ∧ y.2.2 = n
      · rw [Rf.lay_grow h k]; simp
      · rw [Rf.lay_new h k]; simp
theorem extCells_set1 : ∀ (l : List Ext) (j : Nat) (hj : j < l.length) (n : Int), (extCells l).set (j * 3 + 1) (.int .i64 n) = extCells (l.set j (l[j].1, n, l[j].2.2))
  | x :: l, 0, _, n => rfl
  | x :: l, j + 1, hj, n => by
    have ih := extCells_set1 l j (by simpa using hj) n
    have e : extCells (x :: l) = ext3 x ++ extCells l := rfl
    rw [e, show (j + 1) * 3 + 1 = (ext3 x).length + (j * 3 + 1) from by show _ = 3 + _; omega, List.set_append_right _ _ (by omega), Nat.add_sub_cancel_left, ih]
    rfl
theorem OwnE.setMid {e : TypeId} {w : World} {base g c : Nat} {m : List Ext} {y : Ext} (h : OwnE e w base (.slice (some ⟨g, 0, none⟩) (m.length + 1) c) (m ++ [y])) {n : Int} (hm : In64 n) :
    OwnE e (w.setCell ⟨g, m.length * 3 + 1, none⟩ (.int .i64 n)) base (.slice (some ⟨g, 0, none⟩) (m.length + 1) c) (m ++ [(y.1, n, y.2.2)]) := by
  have hj : m.length < (m ++ [y]).length := by simp
  have hr : w.ownsRow base e 3 (.slice (some ⟨g, 0, none⟩) (m.length + 1) c) (m.length + 1) (extCells (m ++ [y])) := by
    have hr := h.row
    rwa [show (m ++ [y]).length = m.length + 1 by simp] at hr
  have hs := (hr.stored (m.length * 3 + 1) (.int .i64 n)).1
  rw [extCells_set1 _ _ hj n] at hs
  have e : (m ++ [y]).set m.length ((m ++ [y])[m.length].1, n, (m ++ [y])[m.length].2.2) = m ++ [(y.1, n, y.2.2)] := by simp
  rw [e] at hs
  refine ⟨by simpa using hs, fun x hx => ?_⟩
  rcases List.mem_append.1 hx with hx | hx
  · exact h.fit x (by simp [hx])
  · rw [List.mem_singleton.1 hx]
    have := h.fit y (by simp)
    exact ⟨this.1, hm, this.2.2⟩
structure Rf.LayIn (w : World) (bn ba bo base : Nat) (n a : Int) (v : Value) (out : List Cnr) : Prop where
  hn : Row w bn 3 [.int .i64 n]
  ha : Row w ba 3 [.int .i64 a]
  ho : Row w bo 34 [v]
  own : OwnE 56 w base v out
  low : bn < base ∧ ba < base ∧ bo < base
  ne : bn ≠ bo ∧ ba ≠ bo
  base : base ≤ w.heap.size
structure Rf.LayDone (w w' : World) (bo base : Nat) (v v' : Value) (l : List Cnr) : Prop where
  out : Row w' bo 34 [v']
  own : OwnE 56 w' base v' l
  os : w'.os = w.os
  tape : w'.tape = w.tape
  output : w'.output = w.output
  size : w.heap.size ≤ w'.heap.size
  block : ∀ k, k < w.heap.size → k ≠ bo → v.ownBlock ≠ some k → w'.heap[k]? = w.heap[k]?
  place : ∀ b, v'.ownBlock = some b → v.ownBlock = some b ∨ w.heap.size ≤ b
theorem Rf.LayDone.grown {w w1 w2 : World} {bo base : Nat} {v v' : Value} {l l' : List Cnr} (I : Row w bo 34 [v]) (hlo : bo < base) (hb : base ≤ w.heap.size) (O : OwnE 56 w base v l) (b1 : Below w.heap.size w w1) (g : Grew w1 w2 v v') (O2 : OwnE 56 w2 base v' l') :
    Row w2 bo 34 [v] ∧ Rf.LayDone w (w2.setCell ⟨bo, 0, none⟩ v') bo base v v' l' := by
  have hbo : bo < w1.heap.size := Nat.lt_of_lt_of_le I.lt b1.size
  have hne : some bo ≠ v.ownBlock := fun e => by have := (O.row.lt bo e.symm).1; omega
  have r2 : Row w2 bo 34 [v] := (I.below b1).keep (g.block bo hbo hne)
  refine ⟨r2, ⟨r2.set 0 v', ?_, g.grown.os.trans b1.os, g.grown.tape.trans b1.tape, g.grown.output.trans b1.output, ?_, fun k hk hkb hkv => ?_, fun b e => ?_⟩⟩
  · exact O2.keep (fun b hbb _ => Below.heap_setCell _ _ _ _ (by show b ≠ bo; omega))
  · have h1 := b1.size
    have h2 := g.grown.size
    have h3 : (w2.setCell ⟨bo, 0, none⟩ v').heap.size = w2.heap.size := by simp
    omega
  · rw [Below.heap_setCell _ _ _ _ (by show k ≠ bo; exact hkb), g.block k (Nat.lt_of_lt_of_le hk b1.size) (fun e => hkv e.symm)]
    exact b1.block k hk
  · rcases g.place b e with k | k
    · exact .inl k
    · exact .inr (Nat.le_trans b1.size k)
theorem Rf.LayDone.set {w : World} {bn ba bo base g j len c : Nat} {n a : Int} {out l : List Cnr} {x : Value} (I : Rf.LayIn w bn ba bo base n a (.slice (some ⟨g, 0, none⟩) len c) out) (hg : base ≤ g) (O : OwnE 56 (w.setCell ⟨g, j, none⟩ x) base (.slice (some ⟨g, 0, none⟩) len c) l) :
    Rf.LayDone w (w.setCell ⟨g, j, none⟩ x).drew.drew bo base (.slice (some ⟨g, 0, none⟩) len c) (.slice (some ⟨g, 0, none⟩) len c) l :=
  ⟨I.ho.keep (Below.heap_setCell _ _ _ _ (by have := I.low.2.2; show bo ≠ g; omega)), O.keep (fun _ _ _ => rfl), rfl, rfl, rfl, by show w.heap.size ≤ (w.setCell ⟨g, j, none⟩ x).heap.size; simp, fun k hk hb hv => Below.heap_setCell _ _ _ _ (fun e => hv (by subst e; rfl)), fun b e => .inl e⟩
theorem cnr_new (w : World) (x : Ext) (t : TypeId) : ∀ j u, (ext3 x)[j]? = some u → (w.alloc (.cells #[.int .i64 x.1, .int .i64 x.2.1, .int .i64 x.2.2] t)).drew.cell? ((⟨w.heap.size, 0, none⟩ : Addr).add j) = some u := ext_cells_new w x t
set_option maxRecDepth 20000 in
set_option maxHeartbeats 8000000 in
theorem lay_u (w : World) (bn ba bo base : Nat) (n a t : Int) (v : Value) (out : List Cnr) (I : Rf.LayIn w bn ba bo base n a v out) (hs : ∀ y ∈ out, Rf.Sm y) (hl : out.length ≤ 100000) (h0 : 0 ≤ a) (h1 : a ≤ t) (h2 : t ≤ 65536) (h3 : -100000 ≤ n) (h4 : n ≤ 100000) :
    Calls Try.prog 57 #[.int .i64 t, .pointer (some ⟨bn, 0, none⟩), .pointer (some ⟨ba, 0, none⟩), .pointer (some ⟨bo, 0, none⟩)] w fun e w' => e = .returned (.tuple #[]) ∧ ∃ v', Rf.LayDone w w' bo base v v' (Rf.lay out a n t) := by
  have c0 : w.cell? ⟨bn, 0, none⟩ = some (.int .i64 n) := I.hn.cell (j := 0) rfl
  have c1 : w.cell? ⟨ba, 0, none⟩ = some (.int .i64 a) := I.ha.cell (j := 0) rfl
  have c2 : w.cell? ⟨bo, 0, none⟩ = some v := I.ho.cell (j := 0) rfl
  have HI : Hid (Rf.LayIn w bn ba bo base n a v out) := I
  by_cases hst : n = 0 ∨ a = t
  · have HD : Hid (Rf.LayDone w w bo base v v (Rf.lay out a n t)) := ⟨I.ho, by rw [Rf.lay_stay hst]; exact I.own, rfl, rfl, rfl, Nat.le_refl _, fun _ _ _ _ => rfl, fun b e => .inl e⟩
    clear I hs hl
    by_cases hn0 : n = 0
    · subst hn0
      go_enter Try.func57, Try.ntmps57
      go_wp2
      first
        | go_end0
        | ((try simp only [Exit.inBlock, Exit.then]); refine bodyPost_ret (results_none rfl _ _ _) rfl ?_)
      exact ⟨rfl, v, HD.out⟩
    · obtain rfl : a = t := by omega
      go_enter Try.func57, Try.ntmps57
      go_wp2
      first
        | go_end0
        | ((try simp only [Exit.inBlock, Exit.then]); refine bodyPost_ret (results_none rfl _ _ _) rfl ?_)
      exact ⟨rfl, v, HD.out⟩
  · have hn0 : ¬ n = 0 := fun e => hst (.inl e)
    have hat : ¬ a = t := fun e => hst (.inr e)
    have HST : Hid (¬ (n = 0 ∨ a = t)) := hst
    have hb0 : (n == 0) = false := by rw [beq_eq_false_iff_ne]; exact hn0
    have hb1 : (a == t) = false := by rw [beq_eq_false_iff_ne]; exact hat
    have hnewS : Rf.Sm (a, t - a, n) := by unfold Rf.Sm; simp only; omega
    have HN3 : Hid (In3 (a, t - a, n)) := hnewS.in3
    have HNew : Hid _ := cnr_new w (a, t - a, n) 56
    have ba1 : Below w.heap.size w (w.alloc (.cells #[.int .i64 a, .int .i64 (t - a), .int .i64 n] 56)).drew := ((Below.refl _ _).alloc (Nat.le_refl _) _).drew
    have HBA : Hid (Below w.heap.size w (w.alloc (.cells #[.int .i64 a, .int .i64 (t - a), .int .i64 n] 56)).drew) := ba1
    obtain ⟨v', w2, hr, ho2, g2⟩ := run_append_cnr (I.own.below ba1) (c := 1) HNew.out HN3.out (by omega) (Nat.le_trans I.base ba1.size) 34
    obtain ⟨a9, c9, hv9, -, -⟩ := ho2.slice
    generalize (out ++ [(a, t - a, n)]).length = n9 at hv9
    subst hv9
    obtain ⟨r2, D2⟩ := Rf.LayDone.grown I.ho I.low.2.2 I.base I.own ba1 g2 ho2
    have q2 : w2.cell? ⟨bo, 0, none⟩ = some v := r2.cell (j := 0) rfl
    have q3 : w2.frozen? ⟨bo, 0, none⟩ = false := r2.frozen 0
    have HR : Hid _ := hr
    have HD2 : Hid (Rf.LayDone w (w2.setCell ⟨bo, 0, none⟩ (.slice a9 n9 c9)) bo base v (.slice a9 n9 c9) (out ++ [(a, t - a, n)])) := D2
    clear hr ho2 g2 r2 D2 ba1 hst
    rcases List.eq_nil_or_concat out with e | ⟨m, y, e⟩
    · have HL : Hid (Rf.lay out a n t = out ++ [(a, t - a, n)]) := by unfold Hid; rw [e, Rf.lay_first HST.out]; rfl
      obtain ⟨av, cv, hv, -, -⟩ := I.own.slice
      rw [e, List.length_nil] at hv
      subst hv
      clear I e hs hl
      go_enter Try.func57, Try.ntmps57
      go_wp2_with fail
      go_region
      go_wp2_with (at_builtin; refine Lib.wpList_append_run _ rfl _ _ _ _ rfl _ _ rfl rfl _ _ HR.out ?_)
      first
        | go_end0
        | ((try simp only [Exit.inBlock, Exit.then]); refine bodyPost_ret (results_none rfl _ _ _) rfl ?_)
      exact ⟨rfl, _, by rw [HL.out]; exact HD2.out⟩
    · rw [List.concat_eq_append] at e
      have hy := hs y (by rw [e]; simp)
      unfold Rf.Sm at hy
      obtain ⟨s1, s2, s3, s4, s5⟩ := hy
      obtain ⟨av, cv, hv, -, -⟩ := I.own.slice
      rw [e, show (m ++ [y]).length = m.length + 1 by simp] at hv
      subst hv
      have hO := I.own
      rw [e] at hO
      obtain ⟨g, rfl, hgb, hgl, -, hat3⟩ := hO.at (by simp)
      obtain ⟨o0, o1, o2, of⟩ := hat3 m.length (by simp)
      rw [show (m ++ [y])[m.length]'(by simp) = y by simp] at o0 o1 o2
      have of1 := of (m.length * 3 + 1)
      have hml : m.length + 1 ≤ 100000 := by rw [e] at hl; simpa using hl
      have HGB : Hid (base ≤ g) := hgb
      have HGL : Hid (g < w.heap.size) := hgl
      have HOw : Hid (OwnE 56 w base (.slice (some ⟨g, 0, none⟩) (m.length + 1) cv) (m ++ [y])) := hO
      have hm0 : decide ((m.length : Int) < 0) = false := decide_eq_false (by omega)
      have hm1 : decide (0 ≤ (m.length : Int)) = true := decide_eq_true (by omega)
      have hk1 : (m.length : Int) < ((m.length + 1 : Nat) : Int) := by omega
      have hk2 : (m.length : Int) < (m.length : Int) + 1 := by omega
      have ew : IntKind.i64.wrap (y.1 + y.2.1) = y.1 + y.2.1 := by rw [IntKind.wrap_i64]; omega
      clear hO hat3 of hs hl
      by_cases hk : y.1 + y.2.1 = a ∧ y.2.2 = n
      · have HL : Hid (Rf.lay out a n t = m ++ [(y.1, y.2.1 + (t - a), y.2.2)]) := by unfold Hid; rw [e, Rf.lay_grow HST.out hk]
        have HS : Hid (Rf.LayDone w (w.setCell ⟨g, m.length * 3 + 1, none⟩ (.int .i64 (y.2.1 + (t - a)))).drew.drew bo base (.slice (some ⟨g, 0, none⟩) (m.length + 1) cv) (.slice (some ⟨g, 0, none⟩) (m.length + 1) cv) (Rf.lay out a n t)) := by
          refine Rf.LayDone.set I HGB.out ?_
          rw [HL.out]
          exact OwnE.setMid HOw.out (show In64 (y.2.1 + (t - a)) by unfold In64; omega)
        have h5 : (y.1 + y.2.1 == a) = true := by rw [beq_iff_eq]; exact hk.1
        have h6 : (y.2.2 == n) = true := by rw [beq_iff_eq]; exact hk.2
        clear e I HR HD2 q2 q3 hk
        go_enter Try.func57, Try.ntmps57
        go_wp2_with fail
        go_region
        go_wp2_with fail
        go_region
        go_wp2
        first
          | go_end0
          | ((try simp only [Exit.inBlock, Exit.then]); refine bodyPost_ret (results_none rfl _ _ _) rfl ?_)
        exact ⟨rfl, _, HS.out⟩
      · have HL : Hid (Rf.lay out a n t = out ++ [(a, t - a, n)]) := by unfold Hid; rw [e, Rf.lay_new HST.out hk]
        clear e I
        by_cases h5 : y.1 + y.2.1 = a
        · have h6 : (y.2.2 == n) = false := by rw [beq_eq_false_iff_ne]; exact fun e => hk ⟨h5, e⟩
          have h5b : (y.1 + y.2.1 == a) = true := by rw [beq_iff_eq]; exact h5
          clear hk h5
          go_enter Try.func57, Try.ntmps57
          go_wp2_with fail
          go_region
          go_wp2_with (at_builtin; refine Lib.wpList_append_run _ rfl _ _ _ _ rfl _ _ rfl rfl _ _ HR.out ?_)
          first
            | go_end0
            | ((try simp only [Exit.inBlock, Exit.then]); refine bodyPost_ret (results_none rfl _ _ _) rfl ?_)
          exact ⟨rfl, _, by rw [HL.out]; exact HD2.out⟩
        · have h5b : (y.1 + y.2.1 == a) = false := by rw [beq_eq_false_iff_ne]; exact h5
          clear hk h5
          go_enter Try.func57, Try.ntmps57
          go_wp2_with fail
          go_region
          go_wp2_with (at_builtin; refine Lib.wpList_append_run _ rfl _ _ _ _ rfl _ _ rfl rfl _ _ HR.out ?_)
          first
            | go_end0
            | ((try simp only [Exit.inBlock, Exit.then]); refine bodyPost_ret (results_none rfl _ _ _) rfl ?_)
          exact ⟨rfl, _, by rw [HL.out]; exact HD2.out⟩
end Go.Proofs.Ytinlgoljaiolnaa
namespace Go.Proofs.Ytinlgoljaiolnaa
open Go.RowKit
set_option linter.unusedVariables false
set_option maxHeartbeats 2000000 in
theorem couldBeOne_u (w : World) (y x : Ext) (hy : Small y) (r : Bool) (hr : decide (x.1 = y.1 + y.2.2 ∧ x.2.1 = y.2.1 + y.2.2) = r) :
    Calls Try.prog 74 #[.agg #[.int .i64 y.1, .int .i64 y.2.1, .int .i64 y.2.2], .agg #[.int .i64 x.1, .int .i64 x.2.1, .int .i64 x.2.2]] w fun e w' => e = .returned (.bool r) ∧ Below w.heap.size w w' := by
  unfold Small at hy
  have HE : Hid (In64 (y.1 + y.2.2)) := by unfold Hid In64; omega
  obtain ⟨⟨s1, s2⟩, ⟨s3, s4⟩, s5, s6⟩ := hy
  obtain ⟨w1, w0, hw1, hw0, z1, V1, V0, b0⟩ := two_boxes w 80 y x
  have HV1 : Hid (Row w0.drew w.heap.size 80 (ext3 y)) := V1.keep rfl
  have HV0 : Hid (Row w0.drew (w.heap.size + 1) 80 (ext3 x)) := V0.keep rfl
  have S0 := six_kept HV1.out HV0.out (Below.refl _ _)
  have B0 : Hid (Below w.heap.size w w0.drew) := b0.drew
  obtain ⟨d0, d1, d2, d3, d4, d5⟩ := six_kept V1 V0 (Below.refl _ _)
  clear V1 V0 b0
  have ew : IntKind.i64.wrap (y.2.1 + y.2.2) = y.2.1 + y.2.2 := by rw [IntKind.wrap_i64]; omega
  obtain ⟨q, hq⟩ : ∃ q, (x.2.1 == y.2.1 + y.2.2) = q := ⟨_, rfl⟩
  by_cases c1 : x.1 = y.1 + y.2.2
  · have c1' : (x.1 == y.1 + y.2.2) = true := beq_iff_eq.2 c1
    have HR : Hid (q = r) := by
      unfold Hid; rw [← hr, ← hq, Bool.eq_iff_iff, beq_iff_eq, decide_eq_true_eq]
      exact ⟨fun h => ⟨c1, h⟩, fun h => h.2⟩
    clear c1 hr
    go_enter Try.func74, Try.ntmps74
    go_wp2_with fail
    first
     | go_region_held_law (fun w' : World => w'.cell? ⟨w.heap.size, 0, none⟩ = some (.int .i64 y.1) ∧ w'.cell? ⟨w.heap.size, 1, none⟩ = some (.int .i64 y.2.1) ∧ w'.cell? ⟨w.heap.size, 2, none⟩ = some (.int .i64 y.2.2) ∧ w'.cell? ⟨w.heap.size + 1, 0, none⟩ = some (.int .i64 x.1) ∧ w'.cell? ⟨w.heap.size + 1, 1, none⟩ = some (.int .i64 x.2.1) ∧ w'.cell? ⟨w.heap.size + 1, 2, none⟩ = some (.int .i64 x.2.2))
        (first | exact S0 | exact S1)
        (first
       | (go_simp; go_at_call 73; refine Calls.mono (virtEnd_u _ y HE.out) ?_
          rintro e w2 ⟨rfl, hb2⟩
          have HB2 : Hid (Below w.heap.size w w2) := on B0.out hb2
          have S1 := six_kept HV1.out HV0.out hb2
          clear hb2; go_simp))
     | fail
    clear S0 S1
    go_wp2
    go_ret
    exact ⟨by rw [← HR.out]; rfl, HB2.out⟩
  · have c1' : (x.1 == y.1 + y.2.2) = false := beq_eq_false_iff_ne.2 c1
    have HR : Hid (r = false) := by unfold Hid; rw [← hr]; exact decide_eq_false (fun h => c1 h.1)
    clear c1 hr hq
    go_enter Try.func74, Try.ntmps74
    go_wp2_with fail
    refine wp_region_held_drew (S := (fun w' : World => w'.cell? ⟨w.heap.size, 0, none⟩ = some (.int .i64 y.1) ∧ w'.cell? ⟨w.heap.size, 1, none⟩ = some (.int .i64 y.2.1) ∧ w'.cell? ⟨w.heap.size, 2, none⟩ = some (.int .i64 y.2.2) ∧ w'.cell? ⟨w.heap.size + 1, 0, none⟩ = some (.int .i64 x.1) ∧ w'.cell? ⟨w.heap.size + 1, 1, none⟩ = some (.int .i64 x.2.1) ∧ w'.cell? ⟨w.heap.size + 1, 2, none⟩ = some (.int .i64 x.2.2))) (by kernel_rfl) (S0) (fun hHeld => ?_)
    refine wpAnyH_takeL (i := 0) (v := ?_) rfl rfl (by kernel_rfl) (by kernel_rfl) (by kernel_rfl) (fun _ _ _ h => h) (Or.inl ⟨by rfl, ?_⟩) (by assumption) ?_
    rotate_left
    · intro w hSw
      try dsimp only at hSw
      go_simp
      all_goals with_reducible rfl
    simp only [List.set_cons_zero, List.set_cons_succ]
    refine wpAnyH_takeL (i := 1) (v := ?_) rfl rfl (by kernel_rfl) (by kernel_rfl) (by kernel_rfl) (fun _ _ _ h => h) (Or.inl ⟨by rfl, ?_⟩) (by assumption) ?_
    rotate_left
    · intro w hSw
      try dsimp only at hSw
      go_simp
      all_goals with_reducible rfl
    simp only [List.set_cons_zero, List.set_cons_succ]
    refine wpAnyH_takeL (i := 2) (v := ?_) rfl rfl (by kernel_rfl) (by kernel_rfl) (by kernel_rfl) (fun _ _ _ h => h) (Or.inl ⟨by rfl, ?_⟩) (by assumption) ?_
    rotate_left
    · intro w hSw
      try dsimp only at hSw
      go_simp
      all_goals with_reducible rfl
    simp only [List.set_cons_zero, List.set_cons_succ]
    refine wpAnyH_ready (rs := [3]) (by kernel_rfl) (by simp) ?_
    refine AllReadyH.cons rfl (fun K hK => ?_) ?_
    · go_simp
      go_at_call 73
      refine Calls.mono (virtEnd_u _ y HE.out) ?_
      rintro e w2 ⟨rfl, hb2⟩
      have HB2 : Hid (Below w.heap.size w w2) := on B0.out hb2
      have S1 := six_kept HV1.out HV0.out hb2
      clear hb2
      go_simp
      refine hK.out _ _ ?_ (fun hHeld => ?_)
      · try dsimp only
        exact S1
      clear hK K
      refine wpAnyH_takeL (i := 4) (v := ?_) rfl rfl (by kernel_rfl) (by kernel_rfl) (by kernel_rfl) (fun _ _ _ h => h) (Or.inl ⟨by rfl, ?_⟩) (by assumption) ?_
      rotate_left
      · intro w hSw
        try dsimp only at hSw
        go_simp
        all_goals with_reducible rfl
      simp only [List.set_cons_zero, List.set_cons_succ]
      refine wpAnyH_takeL (i := 5) (v := ?_) rfl rfl (by kernel_rfl) (by kernel_rfl) (by kernel_rfl) (fun _ _ _ h => h) (Or.inl ⟨by rfl, ?_⟩) (by assumption) ?_
      rotate_left
      · intro w hSw
        try dsimp only at hSw
        go_simp
        all_goals with_reducible rfl
      simp only [List.set_cons_zero, List.set_cons_succ]
      refine wpAnyH_passL (i := 6) rfl rfl (by kernel_rfl) (by kernel_rfl) (by kernel_rfl) (by rfl) (fun _ _ _ h => h) (by assumption) ?_
      simp only [List.set_cons_zero, List.set_cons_succ]
      refine wpAnyH_passL (i := 7) rfl rfl (by kernel_rfl) (by kernel_rfl) (by kernel_rfl) (by rfl) (fun _ _ _ h => h) (by assumption) ?_
      simp only [List.set_cons_zero, List.set_cons_succ]
      refine wpAnyH_passL (i := 8) rfl rfl (by kernel_rfl) (by kernel_rfl) (by kernel_rfl) (by rfl) (fun _ _ _ h => h) (by assumption) ?_
      simp only [List.set_cons_zero, List.set_cons_succ]
      refine wpAnyH_passL (i := 9) rfl rfl (by kernel_rfl) (by kernel_rfl) (by kernel_rfl) (by rfl) (fun _ _ _ h => h) (by assumption) ?_
      simp only [List.set_cons_zero, List.set_cons_succ]
      refine wpAnyH_passL (i := 10) rfl rfl (by kernel_rfl) (by kernel_rfl) (by kernel_rfl) (by rfl) (fun _ _ _ h => h) (by assumption) ?_
      simp only [List.set_cons_zero, List.set_cons_succ]
      refine wpAnyH_passL (i := 11) rfl rfl (by kernel_rfl) (by kernel_rfl) (by kernel_rfl) (by rfl) (fun _ _ _ h => h) (by assumption) ?_
      simp only [List.set_cons_zero, List.set_cons_succ]
      refine wpAnyH_passL (i := 12) rfl rfl (by kernel_rfl) (by kernel_rfl) (by kernel_rfl) (by rfl) (fun _ _ _ h => h) (by assumption) ?_
      simp only [List.set_cons_zero, List.set_cons_succ]
      refine wpAnyH_passL (i := 13) rfl rfl (by kernel_rfl) (by kernel_rfl) (by kernel_rfl) (by rfl) (fun _ _ _ h => h) (by assumption) ?_
      simp only [List.set_cons_zero, List.set_cons_succ]
      refine wpAnyH_takeL (i := 14) (v := ?_) rfl rfl (by kernel_rfl) (by kernel_rfl) (by kernel_rfl) (fun _ _ _ h => h) (Or.inl ⟨by rfl, ?_⟩) (by assumption) ?_
      rotate_left
      · intro w hSw
        try dsimp only at hSw
        go_simp
        all_goals with_reducible rfl
      simp only [List.set_cons_zero, List.set_cons_succ]
      refine wpAnyH_takeL (i := 15) (v := ?_) rfl rfl (by kernel_rfl) (by kernel_rfl) (by kernel_rfl) (fun _ _ _ h => h) (Or.inl ⟨by rfl, ?_⟩) (by assumption) ?_
      rotate_left
      · intro w hSw
        try dsimp only at hSw
        go_simp
        all_goals with_reducible rfl
      simp only [List.set_cons_zero, List.set_cons_succ]
      refine wpAnyH_done (by kernel_rfl) ?_ _
      clear S1
      go_wp2
      go_ret
      exact ⟨by rw [HR.out]; rfl, HB2.out⟩
    exact AllReadyH.nil
end Go.Proofs.Ytinlgoljaiolnaa
namespace Go.Proofs.Ytinlgoljaiolnaa
open Go.RowKit
set_option linter.unusedVariables false
set_option maxHeartbeats 2000000 in
theorem mayFollow_u (w : World) (y x : Ext) (hy : Small y) (r : Bool) (hr : decide (Ex.Behind y x) = r) :
    Calls Try.prog 60 #[.agg #[.int .i64 y.1, .int .i64 y.2.1, .int .i64 y.2.2], .agg #[.int .i64 x.1, .int .i64 x.2.1, .int .i64 x.2.2]] w fun e w' => e = .returned (.bool r) ∧ Below w.heap.size w w' := by
  have HS : Hid (Small y) := hy
  unfold Small at hy
  have HE : Hid (In64 (y.1 + y.2.2)) := by unfold Hid In64; omega
  have HR0 : Hid (r = true ↔ y.1 + y.2.2 ≤ x.1 ∧ ¬ (x.1 = y.1 + y.2.2 ∧ x.2.1 = y.2.1 + y.2.2)) := by unfold Hid; rw [← hr]; exact ⟨fun h => of_decide_eq_true h, fun h => decide_eq_true h⟩
  obtain ⟨⟨s1, s2⟩, ⟨s3, s4⟩, s5, s6⟩ := hy
  obtain ⟨w1, w0, hw1, hw0, z1, V1, V0, b0⟩ := two_boxes w 80 y x
  have HV1 : Hid (Row w0.drew w.heap.size 80 (ext3 y)) := V1.keep rfl
  have HV0 : Hid (Row w0.drew (w.heap.size + 1) 80 (ext3 x)) := V0.keep rfl
  have S0 := six_kept HV1.out HV0.out (Below.refl _ _)
  have B0 : Hid (Below w.heap.size w w0.drew) := b0.drew
  obtain ⟨d0, d1, d2, d3, d4, d5⟩ := six_kept V1 V0 (Below.refl _ _)
  clear V1 V0 b0 hr
  by_cases c1 : y.1 + y.2.2 ≤ x.1
  · have c1' : decide (y.1 + y.2.2 ≤ x.1) = true := decide_eq_true c1
    obtain ⟨q, hq⟩ : ∃ q, Hid (decide (x.1 = y.1 + y.2.2 ∧ x.2.1 = y.2.1 + y.2.2) = q) := ⟨_, rfl⟩
    have HR : Hid ((!q) = r) := by
      unfold Hid; rw [← hq.out, Bool.eq_iff_iff, HR0.out, Bool.not_eq_true', decide_eq_false_iff_not]
      exact ⟨fun h => ⟨c1, h⟩, fun h => h.2⟩
    clear c1
    go_enter Try.func60, Try.ntmps60
    go_wp2_with fail
    refine wp_region_held_drew (S := (fun w' : World => w'.cell? ⟨w.heap.size, 0, none⟩ = some (.int .i64 y.1) ∧ w'.cell? ⟨w.heap.size, 1, none⟩ = some (.int .i64 y.2.1) ∧ w'.cell? ⟨w.heap.size, 2, none⟩ = some (.int .i64 y.2.2) ∧ w'.cell? ⟨w.heap.size + 1, 0, none⟩ = some (.int .i64 x.1) ∧ w'.cell? ⟨w.heap.size + 1, 1, none⟩ = some (.int .i64 x.2.1) ∧ w'.cell? ⟨w.heap.size + 1, 2, none⟩ = some (.int .i64 x.2.2))) (by kernel_rfl) (S0) (fun hHeld => ?_)
    refine wpAnyH_takeL (i := 0) (v := ?_) rfl rfl (by kernel_rfl) (by kernel_rfl) (by kernel_rfl) (fun _ _ _ h => h) (Or.inl ⟨by rfl, ?_⟩) (by assumption) ?_
    rotate_left
    · intro w hSw
      try dsimp only at hSw
      go_simp
      all_goals with_reducible rfl
    simp only [List.set_cons_zero, List.set_cons_succ]
    refine wpAnyH_takeL (i := 1) (v := ?_) rfl rfl (by kernel_rfl) (by kernel_rfl) (by kernel_rfl) (fun _ _ _ h => h) (Or.inl ⟨by rfl, ?_⟩) (by assumption) ?_
    rotate_left
    · intro w hSw
      try dsimp only at hSw
      go_simp
      all_goals with_reducible rfl
    simp only [List.set_cons_zero, List.set_cons_succ]
    refine wpAnyH_takeL (i := 2) (v := ?_) rfl rfl (by kernel_rfl) (by kernel_rfl) (by kernel_rfl) (fun _ _ _ h => h) (Or.inl ⟨by rfl, ?_⟩) (by assumption) ?_
    rotate_left
    · intro w hSw
      try dsimp only at hSw
      go_simp
      all_goals with_reducible rfl
    simp only [List.set_cons_zero, List.set_cons_succ]
    refine wpAnyH_ready (rs := [3]) (by kernel_rfl) (by simp) ?_
    refine AllReadyH.cons rfl (fun K hK => ?_) ?_
    · go_simp
      go_at_call 73
      refine Calls.mono (virtEnd_u _ y HE.out) ?_
      rintro e w2 ⟨rfl, hb2⟩
      have HB2 : Hid (Below w.heap.size w w2) := on B0.out hb2
      have S1 := six_kept HV1.out HV0.out hb2
      have HV1' : Hid (Row w2 w.heap.size 80 (ext3 y)) := HV1.out.below hb2
      have HV0' : Hid (Row w2 (w.heap.size + 1) 80 (ext3 x)) := HV0.out.below hb2
      clear hb2
      go_simp
      refine hK.out _ _ ?_ (fun hHeld => ?_)
      · try dsimp only
        first | exact S2 | exact S1
      clear hK K
      refine wpAnyH_takeL (i := 4) (v := ?_) rfl rfl (by kernel_rfl) (by kernel_rfl) (by kernel_rfl) (fun _ _ _ h => h) (Or.inl ⟨by rfl, ?_⟩) (by assumption) ?_
      rotate_left
      · intro w hSw
        try dsimp only at hSw
        go_simp
        all_goals with_reducible rfl
      simp only [List.set_cons_zero, List.set_cons_succ]
      refine wpAnyH_takeL (i := 5) (v := ?_) rfl rfl (by kernel_rfl) (by kernel_rfl) (by kernel_rfl) (fun _ _ _ h => h) (Or.inl ⟨by rfl, ?_⟩) (by assumption) ?_
      rotate_left
      · intro w hSw
        try dsimp only at hSw
        go_simp
        all_goals with_reducible rfl
      simp only [List.set_cons_zero, List.set_cons_succ]
      refine wpAnyH_takeL (i := 6) (v := ?_) rfl rfl (by kernel_rfl) (by kernel_rfl) (by kernel_rfl) (fun _ _ _ h => h) (Or.inl ⟨by rfl, ?_⟩) (by assumption) ?_
      rotate_left
      · intro w hSw
        try dsimp only at hSw
        go_simp
        all_goals with_reducible rfl
      simp only [List.set_cons_zero, List.set_cons_succ]
      refine wpAnyH_takeL (i := 7) (v := ?_) rfl rfl (by kernel_rfl) (by kernel_rfl) (by kernel_rfl) (fun _ _ _ h => h) (Or.inl ⟨by rfl, ?_⟩) (by assumption) ?_
      rotate_left
      · intro w hSw
        try dsimp only at hSw
        go_simp
        all_goals with_reducible rfl
      simp only [List.set_cons_zero, List.set_cons_succ]
      refine wpAnyH_ready (rs := [8]) (by kernel_rfl) (by simp) ?_
      refine AllReadyH.cons rfl (fun K hK => ?_) ?_
      · go_simp
        go_at_call 74
        refine Calls.mono (couldBeOne_u _ y x HS.out q hq.out) ?_
        rintro e w3 ⟨rfl, hb3⟩
        have HB3 : Hid (Below w.heap.size w w3) := on HB2.out hb3
        have S2 := six_kept HV1'.out HV0'.out hb3
        clear hb3
        go_simp
        refine hK.out _ _ ?_ (fun hHeld => ?_)
        · try dsimp only
          first | exact S2 | exact S1
        clear hK K
        refine wpAnyH_takeL (i := 9) (v := ?_) rfl rfl (by kernel_rfl) (by kernel_rfl) (by kernel_rfl) (fun _ _ _ h => h) (Or.inl ⟨by rfl, ?_⟩) (by assumption) ?_
        rotate_left
        · intro w hSw
          try dsimp only at hSw
          go_simp
          all_goals with_reducible rfl
        simp only [List.set_cons_zero, List.set_cons_succ]
        refine wpAnyH_takeL (i := 10) (v := ?_) rfl rfl (by kernel_rfl) (by kernel_rfl) (by kernel_rfl) (fun _ _ _ h => h) (Or.inl ⟨by rfl, ?_⟩) (by assumption) ?_
        rotate_left
        · intro w hSw
          try dsimp only at hSw
          go_simp
          all_goals with_reducible rfl
        simp only [List.set_cons_zero, List.set_cons_succ]
        refine wpAnyH_takeL (i := 11) (v := ?_) rfl rfl (by kernel_rfl) (by kernel_rfl) (by kernel_rfl) (fun _ _ _ h => h) (Or.inl ⟨by rfl, ?_⟩) (by assumption) ?_
        rotate_left
        · intro w hSw
          try dsimp only at hSw
          go_simp
          all_goals with_reducible rfl
        simp only [List.set_cons_zero, List.set_cons_succ]
        refine wpAnyH_done (by kernel_rfl) ?_ _
        clear S1 S2
        go_wp2
        go_ret
        exact ⟨by rw [← HR.out]; rfl, HB3.out⟩
      exact AllReadyH.nil
    exact AllReadyH.nil
  · have c1' : decide (y.1 + y.2.2 ≤ x.1) = false := decide_eq_false c1
    have HR : Hid (r = false) := Bool.eq_false_iff.2 (fun h => c1 (HR0.out.1 h).1)
    clear c1
    go_enter Try.func60, Try.ntmps60
    go_wp2_with fail
    refine wp_region_held_drew (S := (fun w' : World => w'.cell? ⟨w.heap.size, 0, none⟩ = some (.int .i64 y.1) ∧ w'.cell? ⟨w.heap.size, 1, none⟩ = some (.int .i64 y.2.1) ∧ w'.cell? ⟨w.heap.size, 2, none⟩ = some (.int .i64 y.2.2) ∧ w'.cell? ⟨w.heap.size + 1, 0, none⟩ = some (.int .i64 x.1) ∧ w'.cell? ⟨w.heap.size + 1, 1, none⟩ = some (.int .i64 x.2.1) ∧ w'.cell? ⟨w.heap.size + 1, 2, none⟩ = some (.int .i64 x.2.2))) (by kernel_rfl) (S0) (fun hHeld => ?_)
    refine wpAnyH_takeL (i := 0) (v := ?_) rfl rfl (by kernel_rfl) (by kernel_rfl) (by kernel_rfl) (fun _ _ _ h => h) (Or.inl ⟨by rfl, ?_⟩) (by assumption) ?_
    rotate_left
    · intro w hSw
      try dsimp only at hSw
      go_simp
      all_goals with_reducible rfl
    simp only [List.set_cons_zero, List.set_cons_succ]
    refine wpAnyH_takeL (i := 1) (v := ?_) rfl rfl (by kernel_rfl) (by kernel_rfl) (by kernel_rfl) (fun _ _ _ h => h) (Or.inl ⟨by rfl, ?_⟩) (by assumption) ?_
    rotate_left
    · intro w hSw
      try dsimp only at hSw
      go_simp
      all_goals with_reducible rfl
    simp only [List.set_cons_zero, List.set_cons_succ]
    refine wpAnyH_takeL (i := 2) (v := ?_) rfl rfl (by kernel_rfl) (by kernel_rfl) (by kernel_rfl) (fun _ _ _ h => h) (Or.inl ⟨by rfl, ?_⟩) (by assumption) ?_
    rotate_left
    · intro w hSw
      try dsimp only at hSw
      go_simp
      all_goals with_reducible rfl
    simp only [List.set_cons_zero, List.set_cons_succ]
    refine wpAnyH_ready (rs := [3]) (by kernel_rfl) (by simp) ?_
    refine AllReadyH.cons rfl (fun K hK => ?_) ?_
    · go_simp
      go_at_call 73
      refine Calls.mono (virtEnd_u _ y HE.out) ?_
      rintro e w2 ⟨rfl, hb2⟩
      have HB2 : Hid (Below w.heap.size w w2) := on B0.out hb2
      have S1 := six_kept HV1.out HV0.out hb2
      have HV1' : Hid (Row w2 w.heap.size 80 (ext3 y)) := HV1.out.below hb2
      have HV0' : Hid (Row w2 (w.heap.size + 1) 80 (ext3 x)) := HV0.out.below hb2
      clear hb2
      go_simp
      refine hK.out _ _ ?_ (fun hHeld => ?_)
      · try dsimp only
        exact S1
      clear hK K
      refine wpAnyH_takeL (i := 4) (v := ?_) rfl rfl (by kernel_rfl) (by kernel_rfl) (by kernel_rfl) (fun _ _ _ h => h) (Or.inl ⟨by rfl, ?_⟩) (by assumption) ?_
      rotate_left
      · intro w hSw
        try dsimp only at hSw
        go_simp
        all_goals with_reducible rfl
      simp only [List.set_cons_zero, List.set_cons_succ]
      refine wpAnyH_takeL (i := 5) (v := ?_) rfl rfl (by kernel_rfl) (by kernel_rfl) (by kernel_rfl) (fun _ _ _ h => h) (Or.inl ⟨by rfl, ?_⟩) (by assumption) ?_
      rotate_left
      · intro w hSw
        try dsimp only at hSw
        go_simp
        all_goals with_reducible rfl
      simp only [List.set_cons_zero, List.set_cons_succ]
      refine wpAnyH_passL (i := 6) rfl rfl (by kernel_rfl) (by kernel_rfl) (by kernel_rfl) (by rfl) (fun _ _ _ h => h) (by assumption) ?_
      simp only [List.set_cons_zero, List.set_cons_succ]
      refine wpAnyH_passL (i := 7) rfl rfl (by kernel_rfl) (by kernel_rfl) (by kernel_rfl) (by rfl) (fun _ _ _ h => h) (by assumption) ?_
      simp only [List.set_cons_zero, List.set_cons_succ]
      refine wpAnyH_passL (i := 8) rfl rfl (by kernel_rfl) (by kernel_rfl) (by kernel_rfl) (by rfl) (fun _ _ _ h => h) (by assumption) ?_
      simp only [List.set_cons_zero, List.set_cons_succ]
      refine wpAnyH_passL (i := 9) rfl rfl (by kernel_rfl) (by kernel_rfl) (by kernel_rfl) (by rfl) (fun _ _ _ h => h) (by assumption) ?_
      simp only [List.set_cons_zero, List.set_cons_succ]
      refine wpAnyH_takeL (i := 10) (v := ?_) rfl rfl (by kernel_rfl) (by kernel_rfl) (by kernel_rfl) (fun _ _ _ h => h) (Or.inl ⟨by rfl, ?_⟩) (by assumption) ?_
      rotate_left
      · intro w hSw
        try dsimp only at hSw
        go_simp
        all_goals with_reducible rfl
      simp only [List.set_cons_zero, List.set_cons_succ]
      refine wpAnyH_takeL (i := 11) (v := ?_) rfl rfl (by kernel_rfl) (by kernel_rfl) (by kernel_rfl) (fun _ _ _ h => h) (Or.inl ⟨by rfl, ?_⟩) (by assumption) ?_
      rotate_left
      · intro w hSw
        try dsimp only at hSw
        go_simp
        all_goals with_reducible rfl
      simp only [List.set_cons_zero, List.set_cons_succ]
      refine wpAnyH_done (by kernel_rfl) ?_ _
      clear S1
      go_wp2
      go_ret
      exact ⟨by rw [HR.out]; rfl, HB2.out⟩
    exact AllReadyH.nil
end Go.Proofs.Ytinlgoljaiolnaa
namespace Go.Proofs.Ytinlgoljaiolnaa
open Go.RowKit
set_option linter.unusedVariables false
theorem both_kept {w w' : World} {B : Nat} {T : TypeId} {x y : Ext} {g off m : Nat} (h1 : Row w B T (ext3 x)) (hg : g < w.heap.size)
    (h2 : w.cell? ⟨g, off + m * 3, none⟩ = some (.int .i64 y.1)) (h3 : w.cell? ⟨g, off + m * 3 + 1, none⟩ = some (.int .i64 y.2.1)) (h4 : w.cell? ⟨g, off + m * 3 + 2, none⟩ = some (.int .i64 y.2.2)) (k : Below w.heap.size w w') :
    w'.cell? ⟨B, 0, none⟩ = some (.int .i64 x.1) ∧ w'.cell? ⟨B, 1, none⟩ = some (.int .i64 x.2.1) ∧ w'.cell? ⟨B, 2, none⟩ = some (.int .i64 x.2.2) ∧ w'.cell? ⟨g, off + m * 3, none⟩ = some (.int .i64 y.1) ∧ w'.cell? ⟨g, off + m * 3 + 1, none⟩ = some (.int .i64 y.2.1) ∧ w'.cell? ⟨g, off + m * 3 + 2, none⟩ = some (.int .i64 y.2.2) :=
  ⟨(h1.below k).three.1, (h1.below k).three.2.1, (h1.below k).three.2.2, (k.cell (p := ⟨g, off + m * 3, none⟩) hg).trans h2, (k.cell (p := ⟨g, off + m * 3 + 1, none⟩) hg).trans h3, (k.cell (p := ⟨g, off + m * 3 + 2, none⟩) hg).trans h4⟩
theorem below_drew_pre {w w' : World} (h : Below w.drew.heap.size w.drew w') : Below w.heap.size w w' := ⟨h.os, h.tape, h.output, h.size, h.block⟩
set_option maxHeartbeats 4000000 in
theorem extCheck_u (w : World) (P : Nat → Prop) (a : Option Addr) (n c : Nat) (l : List Ext) (hL : rExts.rd w P [.slice a n c] l) :
    Calls Try.prog 46 #[.slice a n c] w fun e w' => e = .returned (.int .i64 (Ex.checkE l)) ∧ Below w.heap.size w w' := by
  obtain ⟨hl, hnc, hnil, hb⟩ := rList_len hL
  have hn : n ≤ 5864062014634 := by have : n * 24 ≤ 140737488351232 := hb; omega
  have HL : Hid _ := hl
  have HR : Hid _ := hL
  clear hl hnc hnil hb hL
  by_cases h1024 : 1024 < n
  · have E9 : Hid (Ex.checkE l = 9) := Ex.checkE_no (fun h => by have := h.1; rw [HL.out] at this; omega)
    go_enter Try.func46, Try.ntmps46
    go_wp2
    go_ret
    exact ⟨by rw [E9.out]; rfl, Below.refl _ _⟩
  go_enter Try.func46, Try.ntmps46
  go_wp2
  go_loopw [10] (fun i wr => ∃ k : Nat, k ≤ n ∧ i = .int .i64 k ∧ Hid (∀ j (h : j < l.length), j < k → Ex.Step l j h) ∧ Below w.heap.size w wr) (fun i _ => n - (intOf i).toNat)
  case atStart => exact ⟨0, Nat.zero_le _, rfl, (fun j _ h => by omega), Below.refl _ _⟩
  case round =>
    obtain ⟨k, hk, rfl, HK, bel⟩ := hrel
    by_cases hlt : k < n
    · have hkl : k < l.length := by rw [HL.out]; exact hlt
      have hAr := Rep.below HR.out bel
      obtain ⟨g, off, rfl, -, hgl, hat⟩ := rExts_at hAr (by omega)
      obtain ⟨c0, c1, c2, i3⟩ := hat k hkl
      have HAT : Hid _ := hat
      have HS : Hid (Ex.Step l k hkl ↔ Ex.One l[k] ∧ ∀ j (hj : j + 1 = k), Ex.Behind (l[j]'(by omega)) l[k]) := by unfold Hid Ex.Step; exact Iff.rfl
      have HNO : Hid (¬ Ex.Step l k hkl → Ex.checkE l = 9) := fun h => Ex.checkE_no (fun ho => h (Ex.mays_steps.1 ho.2 k hkl))
      have hs0 := bel.size
      obtain ⟨w1, hw1, V1, b1, z1⟩ := boxedRow wr 80 [.int .i64 l[k].1, .int .i64 l[k].2.1, .int .i64 l[k].2.2]
      obtain ⟨d0, d1, d2⟩ := V1.three
      have bel1 : Hid (Below w.heap.size w w1) := on bel b1
      have HB1 : Hid (Below wr.heap.size wr w1) := b1
      have HGL : Hid (g < w1.drew.heap.size) := by unfold Hid; show g < w1.heap.size; rw [z1]; omega
      have HI3 : Hid _ := i3
      have HBD : Hid (∀ {w2 : World}, Below w1.drew.heap.size w1.drew w2 → Below w1.heap.size w1 w2) := fun h => below_drew_pre h
      have HBD2 : Hid (∀ {w2 w3 : World}, Hid (Below w1.heap.size w1 w2) → Below w2.heap.size w2 w3 → Below w1.drew.heap.size w1.drew w3) := fun h h2 => by have h3 := on h.out h2; exact ⟨h3.os, h3.tape, h3.output, h3.size, h3.block⟩
      have HGW : Hid (g < wr.heap.size) := hgl
      clear hat hAr z1 b1 i3
      obtain ⟨X, hX⟩ : ∃ X, X = l[k] := ⟨_, rfl⟩
      rw [← hX] at c0 c1 c2 d0 d1 d2 hw1 HS V1 HI3
      have HV1 : Hid (Row w1.drew wr.heap.size 80 (ext3 X)) := V1.keep rfl
      have HX : Hid _ := hX
      clear hX V1
      cases e1' : decide (Ex.One X)
      · have e1 : Hid (decide (Ex.One X) = false) := e1'
        have E9 : Hid (Ex.checkE l = 9) := HNO.out (fun h => absurd (HS.out.1 h).1 (of_decide_eq_false e1'))
        clear e1'
        go_wp2_with fail
        refine wp_region_held_drew (S := (fun w' : World => w'.cell? ⟨wr.heap.size, 0, none⟩ = some (.int .i64 X.1) ∧ w'.cell? ⟨wr.heap.size, 1, none⟩ = some (.int .i64 X.2.1) ∧ w'.cell? ⟨wr.heap.size, 2, none⟩ = some (.int .i64 X.2.2))) (by kernel_rfl) (HV1.out.three) (fun hHeld => ?_)
        refine wpAnyH_takeL (i := 0) (v := ?_) rfl rfl (by kernel_rfl) (by kernel_rfl) (by kernel_rfl) (fun _ _ _ h => h) (Or.inl ⟨by rfl, ?_⟩) (by assumption) ?_
        rotate_left
        · intro w hSw
          try dsimp only at hSw
          go_simp
          all_goals with_reducible rfl
        simp only [List.set_cons_zero, List.set_cons_succ]
        refine wpAnyH_ready (rs := [1]) (by kernel_rfl) (by simp) ?_
        refine AllReadyH.cons rfl (fun K hK => ?_) ?_
        · go_simp
          go_at_call 59
          refine Calls.mono (mayBe_u _ X HI3.out _ e1.out) ?_
          rintro e w2 ⟨rfl, hb2⟩
          have HB2 : Hid (Below w.heap.size w w2) := on bel1.out.drew hb2
          have HB2' : Hid (Below w1.heap.size w1 w2) := HBD.out hb2
          have S1 := (HV1.out.below hb2).three
          clear hb2
          go_simp
          refine hK.out _ _ ?_ (fun hHeld => ?_)
          · try dsimp only
            exact S1
          clear hK K
          refine wpAnyH_takeL (i := 2) (v := ?_) rfl rfl (by kernel_rfl) (by kernel_rfl) (by kernel_rfl) (fun _ _ _ h => h) (Or.inl ⟨by rfl, ?_⟩) (by assumption) ?_
          rotate_left
          · intro w hSw
            try dsimp only at hSw
            go_simp
            all_goals with_reducible rfl
          simp only [List.set_cons_zero, List.set_cons_succ]
          refine wpAnyH_takeL (i := 3) (v := ?_) rfl rfl (by kernel_rfl) (by kernel_rfl) (by kernel_rfl) (fun _ _ _ h => h) (Or.inl ⟨by rfl, ?_⟩) (by assumption) ?_
          rotate_left
          · intro w hSw
            try dsimp only at hSw
            go_simp
            all_goals with_reducible rfl
          simp only [List.set_cons_zero, List.set_cons_succ]
          refine wpAnyH_passL (i := 4) rfl rfl (by kernel_rfl) (by kernel_rfl) (by kernel_rfl) (by rfl) (fun _ _ _ h => h) (by assumption) ?_
          simp only [List.set_cons_zero, List.set_cons_succ]
          refine wpAnyH_passL (i := 5) rfl rfl (by kernel_rfl) (by kernel_rfl) (by kernel_rfl) (by rfl) (fun _ _ _ h => h) (by assumption) ?_
          simp only [List.set_cons_zero, List.set_cons_succ]
          refine wpAnyH_passL (i := 6) rfl rfl (by kernel_rfl) (by kernel_rfl) (by kernel_rfl) (by rfl) (fun _ _ _ h => h) (by assumption) ?_
          simp only [List.set_cons_zero, List.set_cons_succ]
          refine wpAnyH_passL (i := 7) rfl rfl (by kernel_rfl) (by kernel_rfl) (by kernel_rfl) (by rfl) (fun _ _ _ h => h) (by assumption) ?_
          simp only [List.set_cons_zero, List.set_cons_succ]
          refine wpAnyH_passL (i := 8) rfl rfl (by kernel_rfl) (by kernel_rfl) (by kernel_rfl) (by rfl) (fun _ _ _ h => h) (by assumption) ?_
          simp only [List.set_cons_zero, List.set_cons_succ]
          refine wpAnyH_passL (i := 9) rfl rfl (by kernel_rfl) (by kernel_rfl) (by kernel_rfl) (by rfl) (fun _ _ _ h => h) (by assumption) ?_
          simp only [List.set_cons_zero, List.set_cons_succ]
          refine wpAnyH_passL (i := 10) rfl rfl (by kernel_rfl) (by kernel_rfl) (by kernel_rfl) (by rfl) (fun _ _ _ h => h) (by assumption) ?_
          simp only [List.set_cons_zero, List.set_cons_succ]
          refine wpAnyH_passL (i := 11) rfl rfl (by kernel_rfl) (by kernel_rfl) (by kernel_rfl) (by rfl) (fun _ _ _ h => h) (by assumption) ?_
          simp only [List.set_cons_zero, List.set_cons_succ]
          refine wpAnyH_passL (i := 12) rfl rfl (by kernel_rfl) (by kernel_rfl) (by kernel_rfl) (by rfl) (fun _ _ _ h => h) (by assumption) ?_
          simp only [List.set_cons_zero, List.set_cons_succ]
          refine wpAnyH_passL (i := 13) rfl rfl (by kernel_rfl) (by kernel_rfl) (by kernel_rfl) (by rfl) (fun _ _ _ h => h) (by assumption) ?_
          simp only [List.set_cons_zero, List.set_cons_succ]
          refine wpAnyH_passL (i := 14) rfl rfl (by kernel_rfl) (by kernel_rfl) (by kernel_rfl) (by rfl) (fun _ _ _ h => h) (by assumption) ?_
          simp only [List.set_cons_zero, List.set_cons_succ]
          refine wpAnyH_passL (i := 15) rfl rfl (by kernel_rfl) (by kernel_rfl) (by kernel_rfl) (by rfl) (fun _ _ _ h => h) (by assumption) ?_
          simp only [List.set_cons_zero, List.set_cons_succ]
          refine wpAnyH_takeL (i := 16) (v := ?_) rfl rfl (by kernel_rfl) (by kernel_rfl) (by kernel_rfl) (fun _ _ _ h => h) (Or.inl ⟨by rfl, ?_⟩) (by assumption) ?_
          rotate_left
          · intro w hSw
            try dsimp only at hSw
            go_simp
            all_goals with_reducible rfl
          simp only [List.set_cons_zero, List.set_cons_succ]
          refine wpAnyH_done (by kernel_rfl) ?_ _
          clear S1
          go_wp2
          go_ret
          exact ⟨by rw [E9.out]; rfl, HB2.out⟩
        exact AllReadyH.nil
      have e1 : Hid (decide (Ex.One X) = true) := e1'
      have HONE : Hid (Ex.One X) := (of_decide_eq_true e1' : Ex.One X)
      clear e1'
      cases k with
      | zero =>
        simp only [Nat.zero_mul, Nat.add_zero] at c0 c1 c2
        have HNX : Hid (∀ j (h : j < l.length), j < 0 + 1 → Ex.Step l j h) := fun j hj hlt => by
          obtain rfl : j = 0 := by omega
          exact HS.out.2 ⟨HONE.out, fun j hj => by omega⟩
        go_wp2_with fail
        refine wp_region_held_drew (S := (fun w' : World => w'.cell? ⟨wr.heap.size, 0, none⟩ = some (.int .i64 X.1) ∧ w'.cell? ⟨wr.heap.size, 1, none⟩ = some (.int .i64 X.2.1) ∧ w'.cell? ⟨wr.heap.size, 2, none⟩ = some (.int .i64 X.2.2))) (by kernel_rfl) (HV1.out.three) (fun hHeld => ?_)
        refine wpAnyH_takeL (i := 0) (v := ?_) rfl rfl (by kernel_rfl) (by kernel_rfl) (by kernel_rfl) (fun _ _ _ h => h) (Or.inl ⟨by rfl, ?_⟩) (by assumption) ?_
        rotate_left
        · intro w hSw
          try dsimp only at hSw
          go_simp
          all_goals with_reducible rfl
        simp only [List.set_cons_zero, List.set_cons_succ]
        refine wpAnyH_ready (rs := [1]) (by kernel_rfl) (by simp) ?_
        refine AllReadyH.cons rfl (fun K hK => ?_) ?_
        · go_simp
          go_at_call 59
          refine Calls.mono (mayBe_u _ X HI3.out _ e1.out) ?_
          rintro e w2 ⟨rfl, hb2⟩
          have HB2 : Hid (Below w.heap.size w w2) := on bel1.out.drew hb2
          have HB2' : Hid (Below w1.heap.size w1 w2) := HBD.out hb2
          have S1 := (HV1.out.below hb2).three
          clear hb2
          go_simp
          refine hK.out _ _ ?_ (fun hHeld => ?_)
          · try dsimp only
            exact S1
          clear hK K
          refine wpAnyH_takeL (i := 2) (v := ?_) rfl rfl (by kernel_rfl) (by kernel_rfl) (by kernel_rfl) (fun _ _ _ h => h) (Or.inl ⟨by rfl, ?_⟩) (by assumption) ?_
          rotate_left
          · intro w hSw
            try dsimp only at hSw
            go_simp
            all_goals with_reducible rfl
          simp only [List.set_cons_zero, List.set_cons_succ]
          refine wpAnyH_takeL (i := 3) (v := ?_) rfl rfl (by kernel_rfl) (by kernel_rfl) (by kernel_rfl) (fun _ _ _ h => h) (Or.inl ⟨by rfl, ?_⟩) (by assumption) ?_
          rotate_left
          · intro w hSw
            try dsimp only at hSw
            go_simp
            all_goals with_reducible rfl
          simp only [List.set_cons_zero, List.set_cons_succ]
          refine wpAnyH_takeL (i := 4) (v := ?_) rfl rfl (by kernel_rfl) (by kernel_rfl) (by kernel_rfl) (fun _ _ _ h => h) (Or.inl ⟨by rfl, ?_⟩) (by assumption) ?_
          rotate_left
          · intro w hSw
            try dsimp only at hSw
            go_simp
            all_goals with_reducible rfl
          simp only [List.set_cons_zero, List.set_cons_succ]
          refine wpAnyH_takeL (i := 5) (v := ?_) rfl rfl (by kernel_rfl) (by kernel_rfl) (by kernel_rfl) (fun _ _ _ h => h) (Or.inl ⟨by rfl, ?_⟩) (by assumption) ?_
          rotate_left
          · intro w hSw
            try dsimp only at hSw
            go_simp
            all_goals with_reducible rfl
          simp only [List.set_cons_zero, List.set_cons_succ]
          refine wpAnyH_takeL (i := 6) (v := ?_) rfl rfl (by kernel_rfl) (by kernel_rfl) (by kernel_rfl) (fun _ _ _ h => h) (Or.inl ⟨by rfl, ?_⟩) (by assumption) ?_
          rotate_left
          · intro w hSw
            try dsimp only at hSw
            go_simp
            all_goals with_reducible rfl
          simp only [List.set_cons_zero, List.set_cons_succ]
          refine wpAnyH_passL (i := 7) rfl rfl (by kernel_rfl) (by kernel_rfl) (by kernel_rfl) (by rfl) (fun _ _ _ h => h) (by assumption) ?_
          simp only [List.set_cons_zero, List.set_cons_succ]
          refine wpAnyH_passL (i := 8) rfl rfl (by kernel_rfl) (by kernel_rfl) (by kernel_rfl) (by rfl) (fun _ _ _ h => h) (by assumption) ?_
          simp only [List.set_cons_zero, List.set_cons_succ]
          refine wpAnyH_passL (i := 9) rfl rfl (by kernel_rfl) (by kernel_rfl) (by kernel_rfl) (by rfl) (fun _ _ _ h => h) (by assumption) ?_
          simp only [List.set_cons_zero, List.set_cons_succ]
          refine wpAnyH_passL (i := 10) rfl rfl (by kernel_rfl) (by kernel_rfl) (by kernel_rfl) (by rfl) (fun _ _ _ h => h) (by assumption) ?_
          simp only [List.set_cons_zero, List.set_cons_succ]
          refine wpAnyH_passL (i := 11) rfl rfl (by kernel_rfl) (by kernel_rfl) (by kernel_rfl) (by rfl) (fun _ _ _ h => h) (by assumption) ?_
          simp only [List.set_cons_zero, List.set_cons_succ]
          refine wpAnyH_passL (i := 12) rfl rfl (by kernel_rfl) (by kernel_rfl) (by kernel_rfl) (by rfl) (fun _ _ _ h => h) (by assumption) ?_
          simp only [List.set_cons_zero, List.set_cons_succ]
          refine wpAnyH_passL (i := 13) rfl rfl (by kernel_rfl) (by kernel_rfl) (by kernel_rfl) (by rfl) (fun _ _ _ h => h) (by assumption) ?_
          simp only [List.set_cons_zero, List.set_cons_succ]
          refine wpAnyH_passL (i := 14) rfl rfl (by kernel_rfl) (by kernel_rfl) (by kernel_rfl) (by rfl) (fun _ _ _ h => h) (by assumption) ?_
          simp only [List.set_cons_zero, List.set_cons_succ]
          refine wpAnyH_takeL (i := 15) (v := ?_) rfl rfl (by kernel_rfl) (by kernel_rfl) (by kernel_rfl) (fun _ _ _ h => h) (Or.inl ⟨by rfl, ?_⟩) (by assumption) ?_
          rotate_left
          · intro w hSw
            try dsimp only at hSw
            go_simp
            all_goals with_reducible rfl
          simp only [List.set_cons_zero, List.set_cons_succ]
          refine wpAnyH_takeL (i := 16) (v := ?_) rfl rfl (by kernel_rfl) (by kernel_rfl) (by kernel_rfl) (fun _ _ _ h => h) (Or.inl ⟨by rfl, ?_⟩) (by assumption) ?_
          rotate_left
          · intro w hSw
            try dsimp only at hSw
            go_simp
            all_goals with_reducible rfl
          simp only [List.set_cons_zero, List.set_cons_succ]
          refine wpAnyH_done (by kernel_rfl) ?_ _
          clear S1
          go_wp2
          go_roundw
          case rel => exact ⟨0 + 1, by omega, by go_num, HNX, HB2.out⟩
          case measure => simp [intOf]; omega
        exact AllReadyH.nil
      | succ m =>
        have hml : m < l.length := by omega
        obtain ⟨y0, y1, y2, -⟩ := HAT.out m hml
        have hy0 : Hid (w1.drew.cell? ⟨g, off + m * 3, none⟩ = some (.int .i64 l[m].1)) := (HB1.out.cell (p := ⟨g, off + m * 3, none⟩) HGW.out).trans y0
        have hy1 : Hid (w1.drew.cell? ⟨g, off + m * 3 + 1, none⟩ = some (.int .i64 l[m].2.1)) := (HB1.out.cell (p := ⟨g, off + m * 3 + 1, none⟩) HGW.out).trans y1
        have hy2 : Hid (w1.drew.cell? ⟨g, off + m * 3 + 2, none⟩ = some (.int .i64 l[m].2.2)) := (HB1.out.cell (p := ⟨g, off + m * 3 + 2, none⟩) HGW.out).trans y2
        have hyo := (HK.out m hml (by omega)).1
        have HBH : Hid ((∀ j (hj : j + 1 = m + 1), Ex.Behind (l[j]'(by omega)) X) ↔ Ex.Behind l[m] X) := ⟨fun h => h m rfl, fun h j hj => by
          obtain rfl : j = m := (by omega)
          exact h⟩
        obtain ⟨Y, hY⟩ : ∃ Y, Y = l[m] := ⟨_, rfl⟩
        rw [← hY] at hy0 hy1 hy2 hyo HBH
        clear hY y0 y1 y2
        unfold Ex.One Ex.Fits at hyo
        have HYS : Hid (Small Y) := by unfold Hid Small; omega
        clear hyo
        have hmn : (m : Int) < (n : Int) := by omega
        have ewm : IntKind.i64.wrap (m : Int) = (m : Int) := by rw [IntKind.wrap_i64]; omega
        cases e2' : decide (Ex.Behind Y X)
        · have e2 : Hid (decide (Ex.Behind Y X) = false) := e2'
          have E9 : Hid (Ex.checkE l = 9) := HNO.out (fun h => absurd (HBH.out.1 (HS.out.1 h).2) (of_decide_eq_false e2'))
          clear e2'
          go_wp2_with fail
          refine wp_region_held_drew (S := (fun w' : World => w'.cell? ⟨wr.heap.size, 0, none⟩ = some (.int .i64 X.1) ∧ w'.cell? ⟨wr.heap.size, 1, none⟩ = some (.int .i64 X.2.1) ∧ w'.cell? ⟨wr.heap.size, 2, none⟩ = some (.int .i64 X.2.2) ∧ w'.cell? ⟨g, off + m * 3, none⟩ = some (.int .i64 Y.1) ∧ w'.cell? ⟨g, off + m * 3 + 1, none⟩ = some (.int .i64 Y.2.1) ∧ w'.cell? ⟨g, off + m * 3 + 2, none⟩ = some (.int .i64 Y.2.2))) (by kernel_rfl) (both_kept HV1.out HGL.out hy0.out hy1.out hy2.out (Below.refl _ _)) (fun hHeld => ?_)
          refine wpAnyH_takeL (i := 0) (v := ?_) rfl rfl (by kernel_rfl) (by kernel_rfl) (by kernel_rfl) (fun _ _ _ h => h) (Or.inl ⟨by rfl, ?_⟩) (by assumption) ?_
          rotate_left
          · intro w hSw
            try dsimp only at hSw
            go_simp
            all_goals with_reducible rfl
          simp only [List.set_cons_zero, List.set_cons_succ]
          refine wpAnyH_ready (rs := [1]) (by kernel_rfl) (by simp) ?_
          refine AllReadyH.cons rfl (fun K hK => ?_) ?_
          · go_simp
            go_at_call 59
            refine Calls.mono (mayBe_u _ X HI3.out _ e1.out) ?_
            rintro e w2 ⟨rfl, hb2⟩
            have HB2 : Hid (Below w.heap.size w w2) := on bel1.out.drew hb2
            have HB2' : Hid (Below w1.heap.size w1 w2) := HBD.out hb2
            have S1 := both_kept HV1.out HGL.out hy0.out hy1.out hy2.out hb2
            clear hb2
            go_simp
            refine hK.out _ _ ?_ (fun hHeld => ?_)
            · try dsimp only
              first | exact S2 | exact S1
            clear hK K
            refine wpAnyH_takeL (i := 2) (v := ?_) rfl rfl (by kernel_rfl) (by kernel_rfl) (by kernel_rfl) (fun _ _ _ h => h) (Or.inl ⟨by rfl, ?_⟩) (by assumption) ?_
            rotate_left
            · intro w hSw
              try dsimp only at hSw
              go_simp
              all_goals with_reducible rfl
            simp only [List.set_cons_zero, List.set_cons_succ]
            refine wpAnyH_takeL (i := 3) (v := ?_) rfl rfl (by kernel_rfl) (by kernel_rfl) (by kernel_rfl) (fun _ _ _ h => h) (Or.inl ⟨by rfl, ?_⟩) (by assumption) ?_
            rotate_left
            · intro w hSw
              try dsimp only at hSw
              go_simp
              all_goals with_reducible rfl
            simp only [List.set_cons_zero, List.set_cons_succ]
            refine wpAnyH_takeL (i := 4) (v := ?_) rfl rfl (by kernel_rfl) (by kernel_rfl) (by kernel_rfl) (fun _ _ _ h => h) (Or.inl ⟨by rfl, ?_⟩) (by assumption) ?_
            rotate_left
            · intro w hSw
              try dsimp only at hSw
              go_simp
              all_goals with_reducible rfl
            simp only [List.set_cons_zero, List.set_cons_succ]
            refine wpAnyH_takeL (i := 5) (v := ?_) rfl rfl (by kernel_rfl) (by kernel_rfl) (by kernel_rfl) (fun _ _ _ h => h) (Or.inl ⟨by rfl, ?_⟩) (by assumption) ?_
            rotate_left
            · intro w hSw
              try dsimp only at hSw
              go_simp
              all_goals with_reducible rfl
            simp only [List.set_cons_zero, List.set_cons_succ]
            refine wpAnyH_takeL (i := 6) (v := ?_) rfl rfl (by kernel_rfl) (by kernel_rfl) (by kernel_rfl) (fun _ _ _ h => h) (Or.inl ⟨by rfl, ?_⟩) (by assumption) ?_
            rotate_left
            · intro w hSw
              try dsimp only at hSw
              go_simp
              all_goals with_reducible rfl
            simp only [List.set_cons_zero, List.set_cons_succ]
            refine wpAnyH_takeL (i := 7) (v := ?_) rfl rfl (by kernel_rfl) (by kernel_rfl) (by kernel_rfl) (fun _ _ _ h => h) (Or.inl ⟨by rfl, ?_⟩) (by assumption) ?_
            rotate_left
            · intro w hSw
              try dsimp only at hSw
              go_simp
              all_goals with_reducible rfl
            simp only [List.set_cons_zero, List.set_cons_succ]
            refine wpAnyH_takeL (i := 8) (v := ?_) rfl rfl (by kernel_rfl) (by kernel_rfl) (by kernel_rfl) (fun _ _ _ h => h) (Or.inl ⟨by rfl, ?_⟩) (by assumption) ?_
            rotate_left
            · intro w hSw
              try dsimp only at hSw
              go_simp
              all_goals with_reducible rfl
            simp only [List.set_cons_zero, List.set_cons_succ]
            refine wpAnyH_takeL (i := 9) (v := ?_) rfl rfl (by kernel_rfl) (by kernel_rfl) (by kernel_rfl) (fun _ _ _ h => h) (Or.inl ⟨by rfl, ?_⟩) (by assumption) ?_
            rotate_left
            · intro w hSw
              try dsimp only at hSw
              go_simp
              all_goals with_reducible rfl
            simp only [List.set_cons_zero, List.set_cons_succ]
            refine wpAnyH_takeL (i := 10) (v := ?_) rfl rfl (by kernel_rfl) (by kernel_rfl) (by kernel_rfl) (fun _ _ _ h => h) (Or.inl ⟨by rfl, ?_⟩) (by assumption) ?_
            rotate_left
            · intro w hSw
              try dsimp only at hSw
              go_simp
              all_goals with_reducible rfl
            simp only [List.set_cons_zero, List.set_cons_succ]
            refine wpAnyH_takeL (i := 11) (v := ?_) rfl rfl (by kernel_rfl) (by kernel_rfl) (by kernel_rfl) (fun _ _ _ h => h) (Or.inl ⟨by rfl, ?_⟩) (by assumption) ?_
            rotate_left
            · intro w hSw
              try dsimp only at hSw
              go_simp
              all_goals with_reducible rfl
            simp only [List.set_cons_zero, List.set_cons_succ]
            refine wpAnyH_takeL (i := 12) (v := ?_) rfl rfl (by kernel_rfl) (by kernel_rfl) (by kernel_rfl) (fun _ _ _ h => h) (Or.inl ⟨by rfl, ?_⟩) (by assumption) ?_
            rotate_left
            · intro w hSw
              try dsimp only at hSw
              go_simp
              all_goals with_reducible rfl
            simp only [List.set_cons_zero, List.set_cons_succ]
            refine wpAnyH_ready (rs := [13]) (by kernel_rfl) (by simp) ?_
            refine AllReadyH.cons rfl (fun K hK => ?_) ?_
            · go_simp
              go_at_call 60
              refine Calls.mono (mayFollow_u _ Y X HYS.out _ e2.out) ?_
              rintro e w3 ⟨rfl, hb3⟩
              have HB3 : Hid (Below w.heap.size w w3) := on HB2.out hb3
              have S2 := both_kept HV1.out HGL.out hy0.out hy1.out hy2.out (HBD2.out HB2' hb3)
              clear hb3
              go_simp
              refine hK.out _ _ ?_ (fun hHeld => ?_)
              · try dsimp only
                first | exact S2 | exact S1
              clear hK K
              refine wpAnyH_takeL (i := 14) (v := ?_) rfl rfl (by kernel_rfl) (by kernel_rfl) (by kernel_rfl) (fun _ _ _ h => h) (Or.inl ⟨by rfl, ?_⟩) (by assumption) ?_
              rotate_left
              · intro w hSw
                try dsimp only at hSw
                go_simp
                all_goals with_reducible rfl
              simp only [List.set_cons_zero, List.set_cons_succ]
              refine wpAnyH_takeL (i := 15) (v := ?_) rfl rfl (by kernel_rfl) (by kernel_rfl) (by kernel_rfl) (fun _ _ _ h => h) (Or.inl ⟨by rfl, ?_⟩) (by assumption) ?_
              rotate_left
              · intro w hSw
                try dsimp only at hSw
                go_simp
                all_goals with_reducible rfl
              simp only [List.set_cons_zero, List.set_cons_succ]
              refine wpAnyH_takeL (i := 16) (v := ?_) rfl rfl (by kernel_rfl) (by kernel_rfl) (by kernel_rfl) (fun _ _ _ h => h) (Or.inl ⟨by rfl, ?_⟩) (by assumption) ?_
              rotate_left
              · intro w hSw
                try dsimp only at hSw
                go_simp
                all_goals with_reducible rfl
              simp only [List.set_cons_zero, List.set_cons_succ]
              refine wpAnyH_done (by kernel_rfl) ?_ _
              clear S1 S2
              go_wp2
              go_ret
              exact ⟨by rw [E9.out]; rfl, HB3.out⟩
            exact AllReadyH.nil
          exact AllReadyH.nil
        · have e2 : Hid (decide (Ex.Behind Y X) = true) := e2'
          have HST : Hid (Ex.Step l (m + 1) hkl) := HS.out.2 ⟨HONE.out, HBH.out.2 (of_decide_eq_true e2')⟩
          clear e2'
          go_wp2_with fail
          refine wp_region_held_drew (S := (fun w' : World => w'.cell? ⟨wr.heap.size, 0, none⟩ = some (.int .i64 X.1) ∧ w'.cell? ⟨wr.heap.size, 1, none⟩ = some (.int .i64 X.2.1) ∧ w'.cell? ⟨wr.heap.size, 2, none⟩ = some (.int .i64 X.2.2) ∧ w'.cell? ⟨g, off + m * 3, none⟩ = some (.int .i64 Y.1) ∧ w'.cell? ⟨g, off + m * 3 + 1, none⟩ = some (.int .i64 Y.2.1) ∧ w'.cell? ⟨g, off + m * 3 + 2, none⟩ = some (.int .i64 Y.2.2))) (by kernel_rfl) (both_kept HV1.out HGL.out hy0.out hy1.out hy2.out (Below.refl _ _)) (fun hHeld => ?_)
          refine wpAnyH_takeL (i := 0) (v := ?_) rfl rfl (by kernel_rfl) (by kernel_rfl) (by kernel_rfl) (fun _ _ _ h => h) (Or.inl ⟨by rfl, ?_⟩) (by assumption) ?_
          rotate_left
          · intro w hSw
            try dsimp only at hSw
            go_simp
            all_goals with_reducible rfl
          simp only [List.set_cons_zero, List.set_cons_succ]
          refine wpAnyH_ready (rs := [1]) (by kernel_rfl) (by simp) ?_
          refine AllReadyH.cons rfl (fun K hK => ?_) ?_
          · go_simp
            go_at_call 59
            refine Calls.mono (mayBe_u _ X HI3.out _ e1.out) ?_
            rintro e w2 ⟨rfl, hb2⟩
            have HB2 : Hid (Below w.heap.size w w2) := on bel1.out.drew hb2
            have HB2' : Hid (Below w1.heap.size w1 w2) := HBD.out hb2
            have S1 := both_kept HV1.out HGL.out hy0.out hy1.out hy2.out hb2
            clear hb2
            go_simp
            refine hK.out _ _ ?_ (fun hHeld => ?_)
            · try dsimp only
              first | exact S2 | exact S1
            clear hK K
            refine wpAnyH_takeL (i := 2) (v := ?_) rfl rfl (by kernel_rfl) (by kernel_rfl) (by kernel_rfl) (fun _ _ _ h => h) (Or.inl ⟨by rfl, ?_⟩) (by assumption) ?_
            rotate_left
            · intro w hSw
              try dsimp only at hSw
              go_simp
              all_goals with_reducible rfl
            simp only [List.set_cons_zero, List.set_cons_succ]
            refine wpAnyH_takeL (i := 3) (v := ?_) rfl rfl (by kernel_rfl) (by kernel_rfl) (by kernel_rfl) (fun _ _ _ h => h) (Or.inl ⟨by rfl, ?_⟩) (by assumption) ?_
            rotate_left
            · intro w hSw
              try dsimp only at hSw
              go_simp
              all_goals with_reducible rfl
            simp only [List.set_cons_zero, List.set_cons_succ]
            refine wpAnyH_takeL (i := 4) (v := ?_) rfl rfl (by kernel_rfl) (by kernel_rfl) (by kernel_rfl) (fun _ _ _ h => h) (Or.inl ⟨by rfl, ?_⟩) (by assumption) ?_
            rotate_left
            · intro w hSw
              try dsimp only at hSw
              go_simp
              all_goals with_reducible rfl
            simp only [List.set_cons_zero, List.set_cons_succ]
            refine wpAnyH_takeL (i := 5) (v := ?_) rfl rfl (by kernel_rfl) (by kernel_rfl) (by kernel_rfl) (fun _ _ _ h => h) (Or.inl ⟨by rfl, ?_⟩) (by assumption) ?_
            rotate_left
            · intro w hSw
              try dsimp only at hSw
              go_simp
              all_goals with_reducible rfl
            simp only [List.set_cons_zero, List.set_cons_succ]
            refine wpAnyH_takeL (i := 6) (v := ?_) rfl rfl (by kernel_rfl) (by kernel_rfl) (by kernel_rfl) (fun _ _ _ h => h) (Or.inl ⟨by rfl, ?_⟩) (by assumption) ?_
            rotate_left
            · intro w hSw
              try dsimp only at hSw
              go_simp
              all_goals with_reducible rfl
            simp only [List.set_cons_zero, List.set_cons_succ]
            refine wpAnyH_takeL (i := 7) (v := ?_) rfl rfl (by kernel_rfl) (by kernel_rfl) (by kernel_rfl) (fun _ _ _ h => h) (Or.inl ⟨by rfl, ?_⟩) (by assumption) ?_
            rotate_left
            · intro w hSw
              try dsimp only at hSw
              go_simp
              all_goals with_reducible rfl
            simp only [List.set_cons_zero, List.set_cons_succ]
            refine wpAnyH_takeL (i := 8) (v := ?_) rfl rfl (by kernel_rfl) (by kernel_rfl) (by kernel_rfl) (fun _ _ _ h => h) (Or.inl ⟨by rfl, ?_⟩) (by assumption) ?_
            rotate_left
            · intro w hSw
              try dsimp only at hSw
              go_simp
              all_goals with_reducible rfl
            simp only [List.set_cons_zero, List.set_cons_succ]
            refine wpAnyH_takeL (i := 9) (v := ?_) rfl rfl (by kernel_rfl) (by kernel_rfl) (by kernel_rfl) (fun _ _ _ h => h) (Or.inl ⟨by rfl, ?_⟩) (by assumption) ?_
            rotate_left
            · intro w hSw
              try dsimp only at hSw
              go_simp
              all_goals with_reducible rfl
            simp only [List.set_cons_zero, List.set_cons_succ]
            refine wpAnyH_takeL (i := 10) (v := ?_) rfl rfl (by kernel_rfl) (by kernel_rfl) (by kernel_rfl) (fun _ _ _ h => h) (Or.inl ⟨by rfl, ?_⟩) (by assumption) ?_
            rotate_left
            · intro w hSw
              try dsimp only at hSw
              go_simp
              all_goals with_reducible rfl
            simp only [List.set_cons_zero, List.set_cons_succ]
            refine wpAnyH_takeL (i := 11) (v := ?_) rfl rfl (by kernel_rfl) (by kernel_rfl) (by kernel_rfl) (fun _ _ _ h => h) (Or.inl ⟨by rfl, ?_⟩) (by assumption) ?_
            rotate_left
            · intro w hSw
              try dsimp only at hSw
              go_simp
              all_goals with_reducible rfl
            simp only [List.set_cons_zero, List.set_cons_succ]
            refine wpAnyH_takeL (i := 12) (v := ?_) rfl rfl (by kernel_rfl) (by kernel_rfl) (by kernel_rfl) (fun _ _ _ h => h) (Or.inl ⟨by rfl, ?_⟩) (by assumption) ?_
            rotate_left
            · intro w hSw
              try dsimp only at hSw
              go_simp
              all_goals with_reducible rfl
            simp only [List.set_cons_zero, List.set_cons_succ]
            refine wpAnyH_ready (rs := [13]) (by kernel_rfl) (by simp) ?_
            refine AllReadyH.cons rfl (fun K hK => ?_) ?_
            · go_simp
              go_at_call 60
              refine Calls.mono (mayFollow_u _ Y X HYS.out _ e2.out) ?_
              rintro e w3 ⟨rfl, hb3⟩
              have HB3 : Hid (Below w.heap.size w w3) := on HB2.out hb3
              have S2 := both_kept HV1.out HGL.out hy0.out hy1.out hy2.out (HBD2.out HB2' hb3)
              clear hb3
              go_simp
              refine hK.out _ _ ?_ (fun hHeld => ?_)
              · try dsimp only
                first | exact S2 | exact S1
              clear hK K
              refine wpAnyH_takeL (i := 14) (v := ?_) rfl rfl (by kernel_rfl) (by kernel_rfl) (by kernel_rfl) (fun _ _ _ h => h) (Or.inl ⟨by rfl, ?_⟩) (by assumption) ?_
              rotate_left
              · intro w hSw
                try dsimp only at hSw
                go_simp
                all_goals with_reducible rfl
              simp only [List.set_cons_zero, List.set_cons_succ]
              refine wpAnyH_takeL (i := 15) (v := ?_) rfl rfl (by kernel_rfl) (by kernel_rfl) (by kernel_rfl) (fun _ _ _ h => h) (Or.inl ⟨by rfl, ?_⟩) (by assumption) ?_
              rotate_left
              · intro w hSw
                try dsimp only at hSw
                go_simp
                all_goals with_reducible rfl
              simp only [List.set_cons_zero, List.set_cons_succ]
              refine wpAnyH_takeL (i := 16) (v := ?_) rfl rfl (by kernel_rfl) (by kernel_rfl) (by kernel_rfl) (fun _ _ _ h => h) (Or.inl ⟨by rfl, ?_⟩) (by assumption) ?_
              rotate_left
              · intro w hSw
                try dsimp only at hSw
                go_simp
                all_goals with_reducible rfl
              simp only [List.set_cons_zero, List.set_cons_succ]
              refine wpAnyH_done (by kernel_rfl) ?_ _
              clear S1 S2
              go_wp2
              go_roundw
              case rel => exact ⟨m + 1 + 1, by omega, by go_num, step_next HK HST, HB3.out⟩
              case measure => simp [intOf]; omega
            exact AllReadyH.nil
          exact AllReadyH.nil
    · obtain rfl : k = n := by omega
      have E0 : Hid (Ex.checkE l = 0) := Ex.checkE_ok ⟨by rw [HL.out]; omega, Ex.mays_steps.2 (fun j h => HK.out j h (by rw [← HL.out]; exact h))⟩
      go_wp2
      go_ret
      exact ⟨by rw [E0.out]; rfl, bel⟩
end Go.Proofs.Ytinlgoljaiolnaa
