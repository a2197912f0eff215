/-
  The landed refs: one stretch of counts laid (the closure within counted). Conditions: those that each contract names.
-/
import Derived.Test.YtinlgoljaiolnabNOwn
import Derived.Test.YtinlgoljaiolnabNSweep
import Derived.Test.YtinlgoljaiolnabXA
import Derived.BigRegion
import Derived.Lib.AppendZeros
namespace Go.Proofs.Ytinlgoljaiolnab
open Go.RowKit
set_option linter.unusedVariables false

/-- A count of few sectors. -/
def Rf.Sm (y : Cnr) : Prop := 0 ≤ y.1 ∧ 0 ≤ y.2.1 ∧ y.1 + y.2.1 ≤ 65536 ∧ -100000 ≤ y.2.2 ∧ y.2.2 ≤ 100000

theorem Rf.Sm.in3 {y : Cnr} (h : Rf.Sm y) : In3 y := by unfold Rf.Sm at h; unfold In3 In64; omega

theorem Rf.lay_stay {out : List Cnr} {a n t : Int} (h : n = 0 ∨ a = t) : Rf.lay out a n t = out := if_pos h

theorem Rf.lay_first {a n t : Int} (h : ¬ (n = 0 ∨ a = t)) : Rf.lay [] a n t = [(a, t - a, n)] := by unfold Rf.lay; rw [if_neg h]; rfl

theorem Rf.lay_grow {m : List Cnr} {y : Cnr} {a n t : Int} (h : ¬ (n = 0 ∨ a = t)) (k : y.1 + y.2.1 = a ∧ y.2.2 = n) : Rf.lay (m ++ [y]) a n t = m ++ [(y.1, y.2.1 + (t - a), y.2.2)] := by
  unfold Rf.lay
  rw [if_neg h, show (m ++ [y]).getLast? = some y by simp]
  simp only
  rw [if_pos k, List.dropLast_concat]

theorem Rf.lay_new {m : List Cnr} {y : Cnr} {a n t : Int} (h : ¬ (n = 0 ∨ a = t)) (k : ¬ (y.1 + y.2.1 = a ∧ y.2.2 = n)) : Rf.lay (m ++ [y]) a n t = m ++ [y] ++ [(a, t - a, n)] := by
  unfold Rf.lay
  rw [if_neg h, show (m ++ [y]).getLast? = some y by simp]
  simp only
  rw [if_neg k]

theorem Rf.lay_sm {out : List Cnr} {a n t : Int} (hs : ∀ y ∈ out, Rf.Sm y) (h0 : 0 ≤ a) (h1 : a ≤ t) (h2 : t ≤ 65536) (h3 : -100000 ≤ n) (h4 : n ≤ 100000) : ∀ y ∈ Rf.lay out a n t, Rf.Sm y := by
  by_cases h : n = 0 ∨ a = t
  · rw [Rf.lay_stay h]; exact hs
  · have hnew : Rf.Sm (a, t - a, n) := by unfold Rf.Sm; simp only; omega
    rcases List.eq_nil_or_concat out with rfl | ⟨m, y, e⟩
    · rw [Rf.lay_first h]
      intro y hy
      rw [List.mem_singleton.1 hy]
      exact hnew
    · rw [List.concat_eq_append] at e
      subst e
      by_cases k : y.1 + y.2.1 = a ∧ y.2.2 = n
      · rw [Rf.lay_grow h k]
        intro z hz
        rcases List.mem_append.1 hz with hz | hz
        · exact hs z (by simp [hz])
        · rw [List.mem_singleton.1 hz]
          have := hs y (by simp)
          unfold Rf.Sm at *
          simp only
          omega
      · rw [Rf.lay_new h k]
        intro z hz
        rcases List.mem_append.1 hz with hz | hz
        · exact hs z hz
        · rw [List.mem_singleton.1 hz]; exact hnew

theorem Rf.lay_len (out : List Cnr) (a n t : Int) : (Rf.lay out a n t).length ≤ out.length + 1 := by
  by_cases h : n = 0 ∨ a = t
  · rw [Rf.lay_stay h]; omega
  · rcases List.eq_nil_or_concat out with rfl | ⟨m, y, e⟩
    · rw [Rf.lay_first h]; simp
    · rw [List.concat_eq_append] at e
      subst e
      by_cases k : y.1 + y.2.1 = a ∧ y.2.2 = n
      · rw [Rf.lay_grow h k]; simp
      · rw [Rf.lay_new h k]; simp

theorem extCells_set1 : ∀ (l : List Ext) (j : Nat) (hj : j < l.length) (n : Int), (extCells l).set (j * 3 + 1) (.int .i64 n) = extCells (l.set j (l[j].1, n, l[j].2.2))
  | x :: l, 0, _, n => rfl
  | x :: l, j + 1, hj, n => by
    have ih := extCells_set1 l j (by simpa using hj) n
    have e : extCells (x :: l) = ext3 x ++ extCells l := rfl
    rw [e, show (j + 1) * 3 + 1 = (ext3 x).length + (j * 3 + 1) from by show _ = 3 + _; omega, List.set_append_right _ _ (by omega), Nat.add_sub_cancel_left, ih]
    rfl

theorem OwnE.setMid {e : TypeId} {w : World} {base g c : Nat} {m : List Ext} {y : Ext} (h : OwnE e w base (.slice (some ⟨g, 0, none⟩) (m.length + 1) c) (m ++ [y])) {n : Int} (hm : In64 n) :
    OwnE e (w.setCell ⟨g, m.length * 3 + 1, none⟩ (.int .i64 n)) base (.slice (some ⟨g, 0, none⟩) (m.length + 1) c) (m ++ [(y.1, n, y.2.2)]) := by
  have hj : m.length < (m ++ [y]).length := by simp
  have hr : w.ownsRow base e 3 (.slice (some ⟨g, 0, none⟩) (m.length + 1) c) (m.length + 1) (extCells (m ++ [y])) := by
    have hr := h.row
    rwa [show (m ++ [y]).length = m.length + 1 by simp] at hr
  have hs := (hr.stored (m.length * 3 + 1) (.int .i64 n)).1
  rw [extCells_set1 _ _ hj n] at hs
  have e : (m ++ [y]).set m.length ((m ++ [y])[m.length].1, n, (m ++ [y])[m.length].2.2) = m ++ [(y.1, n, y.2.2)] := by simp
  rw [e] at hs
  refine ⟨by simpa using hs, fun x hx => ?_⟩
  rcases List.mem_append.1 hx with hx | hx
  · exact h.fit x (by simp [hx])
  · rw [List.mem_singleton.1 hx]
    have := h.fit y (by simp)
    exact ⟨this.1, hm, this.2.2⟩

/-- What the closure stands among: three variables, and the list of its own. -/
structure Rf.LayIn (w : World) (bn ba bo base : Nat) (n a : Int) (v : Value) (out : List Cnr) : Prop where
  hn : Row w bn 3 [.int .i64 n]
  ha : Row w ba 3 [.int .i64 a]
  ho : Row w bo 26 [v]
  own : OwnE 35 w base v out
  low : bn < base ∧ ba < base ∧ bo < base
  ne : bn ≠ bo ∧ ba ≠ bo
  base : base ≤ w.heap.size

structure Rf.LayDone (w w' : World) (bo base : Nat) (v v' : Value) (l : List Cnr) : Prop where
  out : Row w' bo 26 [v']
  own : OwnE 35 w' base v' l
  os : w'.os = w.os
  tape : w'.tape = w.tape
  output : w'.output = w.output
  size : w.heap.size ≤ w'.heap.size
  block : ∀ k, k < w.heap.size → k ≠ bo → v.ownBlock ≠ some k → w'.heap[k]? = w.heap[k]?
  place : ∀ b, v'.ownBlock = some b → v.ownBlock = some b ∨ w.heap.size ≤ b

theorem Rf.LayDone.grown {w w1 w2 : World} {bo base : Nat} {v v' : Value} {l l' : List Cnr} (I : Row w bo 26 [v]) (hlo : bo < base) (hb : base ≤ w.heap.size) (O : OwnE 35 w base v l) (b1 : Below w.heap.size w w1) (g : Grew w1 w2 v v') (O2 : OwnE 35 w2 base v' l') :
    Row w2 bo 26 [v] ∧ Rf.LayDone w (w2.setCell ⟨bo, 0, none⟩ v') bo base v v' l' := by
  have hbo : bo < w1.heap.size := Nat.lt_of_lt_of_le I.lt b1.size
  have hne : some bo ≠ v.ownBlock := fun e => by have := (O.row.lt bo e.symm).1; omega
  have r2 : Row w2 bo 26 [v] := (I.below b1).keep (g.block bo hbo hne)
  refine ⟨r2, ⟨r2.set 0 v', ?_, g.grown.os.trans b1.os, g.grown.tape.trans b1.tape, g.grown.output.trans b1.output, ?_, fun k hk hkb hkv => ?_, fun b e => ?_⟩⟩
  · exact O2.keep (fun b hbb _ => Below.heap_setCell _ _ _ _ (by show b ≠ bo; omega))
  · have h1 := b1.size
    have h2 := g.grown.size
    have h3 : (w2.setCell ⟨bo, 0, none⟩ v').heap.size = w2.heap.size := by simp
    omega
  · rw [Below.heap_setCell _ _ _ _ (by show k ≠ bo; exact hkb), g.block k (Nat.lt_of_lt_of_le hk b1.size) (fun e => hkv e.symm)]
    exact b1.block k hk
  · rcases g.place b e with k | k
    · exact .inl k
    · exact .inr (Nat.le_trans b1.size k)

theorem Rf.LayDone.set {w : World} {bn ba bo base g j len c : Nat} {n a : Int} {out l : List Cnr} {x : Value} (I : Rf.LayIn w bn ba bo base n a (.slice (some ⟨g, 0, none⟩) len c) out) (hg : base ≤ g) (O : OwnE 35 (w.setCell ⟨g, j, none⟩ x) base (.slice (some ⟨g, 0, none⟩) len c) l) :
    Rf.LayDone w (w.setCell ⟨g, j, none⟩ x).drew.drew bo base (.slice (some ⟨g, 0, none⟩) len c) (.slice (some ⟨g, 0, none⟩) len c) l :=
  ⟨I.ho.keep (Below.heap_setCell _ _ _ _ (by have := I.low.2.2; show bo ≠ g; omega)), O.keep (fun _ _ _ => rfl), rfl, rfl, rfl, by show w.heap.size ≤ (w.setCell ⟨g, j, none⟩ x).heap.size; simp, fun k hk hb hv => Below.heap_setCell _ _ _ _ (fun e => hv (by subst e; rfl)), fun b e => .inl e⟩

theorem cnr_new (w : World) (x : Ext) (t : TypeId) : ∀ j u, (ext3 x)[j]? = some u → (w.alloc (.cells #[.int .i64 x.1, .int .i64 x.2.1, .int .i64 x.2.2] t)).drew.cell? ((⟨w.heap.size, 0, none⟩ : Addr).add j) = some u := ext_cells_new w x t

set_option maxRecDepth 20000 in
set_option maxHeartbeats 8000000 in
theorem lay_u (w : World) (bn ba bo base : Nat) (n a t : Int) (v : Value) (out : List Cnr) (I : Rf.LayIn w bn ba bo base n a v out) (hs : ∀ y ∈ out, Rf.Sm y) (hl : out.length ≤ 100000) (h0 : 0 ≤ a) (h1 : a ≤ t) (h2 : t ≤ 65536) (h3 : -100000 ≤ n) (h4 : n ≤ 100000) :
    Calls Try.prog 23 #[.int .i64 t, .pointer (some ⟨bn, 0, none⟩), .pointer (some ⟨ba, 0, none⟩), .pointer (some ⟨bo, 0, none⟩)] w fun e w' => e = .returned (.tuple #[]) ∧ ∃ v', Rf.LayDone w w' bo base v v' (Rf.lay out a n t) := by
  have c0 : w.cell? ⟨bn, 0, none⟩ = some (.int .i64 n) := I.hn.cell (j := 0) rfl
  have c1 : w.cell? ⟨ba, 0, none⟩ = some (.int .i64 a) := I.ha.cell (j := 0) rfl
  have c2 : w.cell? ⟨bo, 0, none⟩ = some v := I.ho.cell (j := 0) rfl
  have HI : Hid (Rf.LayIn w bn ba bo base n a v out) := I
  by_cases hst : n = 0 ∨ a = t
  · have HD : Hid (Rf.LayDone w w bo base v v (Rf.lay out a n t)) := ⟨I.ho, by rw [Rf.lay_stay hst]; exact I.own, rfl, rfl, rfl, Nat.le_refl _, fun _ _ _ _ => rfl, fun b e => .inl e⟩
    clear I hs hl
    by_cases hn0 : n = 0
    · subst hn0
      go_enter Try.func23, Try.ntmps23
      go_wp2
      first
        | go_end0
        | ((try simp only [Exit.inBlock, Exit.then]); refine bodyPost_ret (results_none rfl _ _ _) rfl ?_)
      exact ⟨rfl, v, HD.out⟩
    · obtain rfl : a = t := by omega
      go_enter Try.func23, Try.ntmps23
      go_wp2
      first
        | go_end0
        | ((try simp only [Exit.inBlock, Exit.then]); refine bodyPost_ret (results_none rfl _ _ _) rfl ?_)
      exact ⟨rfl, v, HD.out⟩
  · have hn0 : ¬ n = 0 := fun e => hst (.inl e)
    have hat : ¬ a = t := fun e => hst (.inr e)
    have HST : Hid (¬ (n = 0 ∨ a = t)) := hst
    have hb0 : (n == 0) = false := by rw [beq_eq_false_iff_ne]; exact hn0
    have hb1 : (a == t) = false := by rw [beq_eq_false_iff_ne]; exact hat
    have hnewS : Rf.Sm (a, t - a, n) := by unfold Rf.Sm; simp only; omega
    have HN3 : Hid (In3 (a, t - a, n)) := hnewS.in3
    have HNew : Hid _ := cnr_new w (a, t - a, n) 35
    have ba1 : Below w.heap.size w (w.alloc (.cells #[.int .i64 a, .int .i64 (t - a), .int .i64 n] 35)).drew := ((Below.refl _ _).alloc (Nat.le_refl _) _).drew
    have HBA : Hid (Below w.heap.size w (w.alloc (.cells #[.int .i64 a, .int .i64 (t - a), .int .i64 n] 35)).drew) := ba1
    obtain ⟨v', w2, hr, ho2, g2⟩ := run_append_cnr (I.own.below ba1) (c := 1) HNew.out HN3.out (by omega) (Nat.le_trans I.base ba1.size) 26
    obtain ⟨a9, c9, hv9, -, -⟩ := ho2.slice
    generalize (out ++ [(a, t - a, n)]).length = n9 at hv9
    subst hv9
    obtain ⟨r2, D2⟩ := Rf.LayDone.grown I.ho I.low.2.2 I.base I.own ba1 g2 ho2
    have q2 : w2.cell? ⟨bo, 0, none⟩ = some v := r2.cell (j := 0) rfl
    have q3 : w2.frozen? ⟨bo, 0, none⟩ = false := r2.frozen 0
    have HR : Hid _ := hr
    have HD2 : Hid (Rf.LayDone w (w2.setCell ⟨bo, 0, none⟩ (.slice a9 n9 c9)) bo base v (.slice a9 n9 c9) (out ++ [(a, t - a, n)])) := D2
    clear hr ho2 g2 r2 D2 ba1 hst
    rcases List.eq_nil_or_concat out with e | ⟨m, y, e⟩
    · have HL : Hid (Rf.lay out a n t = out ++ [(a, t - a, n)]) := by unfold Hid; rw [e, Rf.lay_first HST.out]; rfl
      obtain ⟨av, cv, hv, -, -⟩ := I.own.slice
      rw [e, List.length_nil] at hv
      subst hv
      clear I e hs hl
      go_enter Try.func23, Try.ntmps23
      go_wp2_with fail
      go_region
      go_wp2_with (at_builtin; refine Lib.wpList_append_run _ rfl _ _ _ _ rfl _ _ rfl rfl _ _ HR.out ?_)
      first
        | go_end0
        | ((try simp only [Exit.inBlock, Exit.then]); refine bodyPost_ret (results_none rfl _ _ _) rfl ?_)
      exact ⟨rfl, _, by rw [HL.out]; exact HD2.out⟩
    · rw [List.concat_eq_append] at e
      have hy := hs y (by rw [e]; simp)
      unfold Rf.Sm at hy
      obtain ⟨s1, s2, s3, s4, s5⟩ := hy
      obtain ⟨av, cv, hv, -, -⟩ := I.own.slice
      rw [e, show (m ++ [y]).length = m.length + 1 by simp] at hv
      subst hv
      have hO := I.own
      rw [e] at hO
      obtain ⟨g, rfl, hgb, hgl, -, hat3⟩ := hO.at (by simp)
      obtain ⟨o0, o1, o2, of⟩ := hat3 m.length (by simp)
      rw [show (m ++ [y])[m.length]'(by simp) = y by simp] at o0 o1 o2
      have of1 := of (m.length * 3 + 1)
      have hml : m.length + 1 ≤ 100000 := by rw [e] at hl; simpa using hl
      have HGB : Hid (base ≤ g) := hgb
      have HGL : Hid (g < w.heap.size) := hgl
      have HOw : Hid (OwnE 35 w base (.slice (some ⟨g, 0, none⟩) (m.length + 1) cv) (m ++ [y])) := hO
      have hm0 : decide ((m.length : Int) < 0) = false := decide_eq_false (by omega)
      have hm1 : decide (0 ≤ (m.length : Int)) = true := decide_eq_true (by omega)
      have hk1 : (m.length : Int) < ((m.length + 1 : Nat) : Int) := by omega
      have hk2 : (m.length : Int) < (m.length : Int) + 1 := by omega
      have ew : IntKind.i64.wrap (y.1 + y.2.1) = y.1 + y.2.1 := by rw [IntKind.wrap_i64]; omega
      clear hO hat3 of hs hl
      by_cases hk : y.1 + y.2.1 = a ∧ y.2.2 = n
      · have HL : Hid (Rf.lay out a n t = m ++ [(y.1, y.2.1 + (t - a), y.2.2)]) := by unfold Hid; rw [e, Rf.lay_grow HST.out hk]
        have HS : Hid (Rf.LayDone w (w.setCell ⟨g, m.length * 3 + 1, none⟩ (.int .i64 (y.2.1 + (t - a)))).drew.drew bo base (.slice (some ⟨g, 0, none⟩) (m.length + 1) cv) (.slice (some ⟨g, 0, none⟩) (m.length + 1) cv) (Rf.lay out a n t)) := by
          refine Rf.LayDone.set I HGB.out ?_
          rw [HL.out]
          exact OwnE.setMid HOw.out (show In64 (y.2.1 + (t - a)) by unfold In64; omega)
        have h5 : (y.1 + y.2.1 == a) = true := by rw [beq_iff_eq]; exact hk.1
        have h6 : (y.2.2 == n) = true := by rw [beq_iff_eq]; exact hk.2
        clear e I HR HD2 q2 q3 hk
        go_enter Try.func23, Try.ntmps23
        go_wp2_with fail
        go_region
        go_wp2_with fail
        go_region
        go_wp2
        first
          | go_end0
          | ((try simp only [Exit.inBlock, Exit.then]); refine bodyPost_ret (results_none rfl _ _ _) rfl ?_)
        exact ⟨rfl, _, HS.out⟩
      · have HL : Hid (Rf.lay out a n t = out ++ [(a, t - a, n)]) := by unfold Hid; rw [e, Rf.lay_new HST.out hk]
        clear e I
        by_cases h5 : y.1 + y.2.1 = a
        · have h6 : (y.2.2 == n) = false := by rw [beq_eq_false_iff_ne]; exact fun e => hk ⟨h5, e⟩
          have h5b : (y.1 + y.2.1 == a) = true := by rw [beq_iff_eq]; exact h5
          clear hk h5
          go_enter Try.func23, Try.ntmps23
          go_wp2_with fail
          go_region
          go_wp2_with (at_builtin; refine Lib.wpList_append_run _ rfl _ _ _ _ rfl _ _ rfl rfl _ _ HR.out ?_)
          first
            | go_end0
            | ((try simp only [Exit.inBlock, Exit.then]); refine bodyPost_ret (results_none rfl _ _ _) rfl ?_)
          exact ⟨rfl, _, by rw [HL.out]; exact HD2.out⟩
        · have h5b : (y.1 + y.2.1 == a) = false := by rw [beq_eq_false_iff_ne]; exact h5
          clear hk h5
          go_enter Try.func23, Try.ntmps23
          go_wp2_with fail
          go_region
          go_wp2_with (at_builtin; refine Lib.wpList_append_run _ rfl _ _ _ _ rfl _ _ rfl rfl _ _ HR.out ?_)
          first
            | go_end0
            | ((try simp only [Exit.inBlock, Exit.then]); refine bodyPost_ret (results_none rfl _ _ _) rfl ?_)
          exact ⟨rfl, _, by rw [HL.out]; exact HD2.out⟩

end Go.Proofs.Ytinlgoljaiolnab
