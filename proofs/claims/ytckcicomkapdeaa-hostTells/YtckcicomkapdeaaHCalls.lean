/-
  The contracts of the program's host: New, Length, Write, Resize, Flush, Read, Crash. Conditions: those that each contract names.
-/
import Derived.Test.YtckcicomkapdeaaHMay
import Derived.Test.YtckcicomkapdeaaHLen
import Derived.Test.YtckcicomkapdeaaHWith
import Derived.Test.YtckcicomkapdeaaHShown
namespace Go.Proofs.Ytckcicomkapdeaa
open Go.RowKit
set_option linter.unusedVariables false

theorem Hst.flush_length {s : Host} (h : Hst.ok s = true) : (Hst.flushS s).1.length = Hst.lengthN s := by rw [Hst.flush_ok h, Hst.lengthN_ok h]

theorem Hst.readE_zero {s : Host} {p : Int} : Hst.readE s p = 0 ↔ Hst.ok s = true ∧ 0 ≤ p ∧ p < (Hst.lengthN s : Int) := by
  unfold Hst.readE
  by_cases h1 : Hst.ok s = true
  · rw [if_pos h1, Hst.flush_length h1]
    by_cases h2 : 0 ≤ p ∧ p < (Hst.lengthN s : Int)
    · rw [if_pos h2]; exact ⟨fun _ => ⟨h1, h2⟩, fun _ => rfl⟩
    · rw [if_neg h2]; exact ⟨fun h => absurd h (by decide), fun h => absurd h.2 h2⟩
  · rw [if_neg h1]; exact ⟨fun h => absurd h (by decide), fun h => absurd h.1 h1⟩

theorem Hst.write_refused {s : Host} {p : Int} (d : List UInt8) (h : Hst.readE s p ≠ 0) : Hst.writeE s p d = Hst.readE s p ∧ Hst.writeS s p d = Hst.none := by
  have h1 : Hst.writeE s p d = Hst.readE s p := by
    unfold Hst.writeE Hst.readE
    by_cases h1 : Hst.ok s = true
    · rw [if_pos h1, if_pos h1, Hst.flush_length h1]
      by_cases h2 : 0 ≤ p ∧ p < (Hst.lengthN s : Int)
      · exact absurd (Hst.readE_zero.2 ⟨h1, h2⟩) h
      · rw [if_neg h2, if_neg h2]
    · rw [if_neg h1, if_neg h1]
  refine ⟨h1, ?_⟩
  unfold Hst.writeS
  rw [h1, if_neg h]

theorem Hst.write_taken {s : Host} {p : Int} (d : List UInt8) (h : Hst.readE s p = 0) : Hst.writeE s p d = if d.length = 64 then (if s.2.1.length < 4096 then 0 else 51) else 1 := by
  rw [Hst.readE_zero] at h
  unfold Hst.writeE
  rw [if_pos h.1, if_pos h.2]

/-- A host as an answer, beside an error. -/
def HAns (w : World) (s : Host) (err : Int) (e : Ending) (w' : World) : Prop :=
  ∃ cs', e = .returned (.tuple #[.agg cs'.toArray, .int .i64 err]) ∧ rHost.rd w' (fun b => w.heap.size ≤ b) cs' s ∧ Below w.heap.size w w'

theorem results_var3t {Pr : Program} {fn : Func} {p q : Tmp} {ty : TypeId} {tmps : Array Value} {w : World} {b : Nat} {x y z : Value} {d : TypeDesc} (h : fn.results = #[.cell p ty, .tmp q]) (hp : tmps.getD p undef = .pointer (some ⟨b, 0, none⟩))
    (V : Var3 w b x y z) (hu : Pr.underlying ty = some d) (hd : d.isRow = true) (hi : (Pr.info? ty).map (·.size) = some 3) : (results fn tmps).run Pr w = .ok (.tuple #[.agg #[x, y, z], tmps.getD q undef]) w := by
  have hp' : tmps[p]?.getD undef = .pointer (some ⟨b, 0, none⟩) := by simpa using hp
  have hr : w.rangeAt b 0 [x, y, z] := by
    intro j v hv
    rw [Nat.zero_add]
    match j, hv with
    | 0, hv => simp at hv; subst hv; exact V.c0
    | 1, hv => simp at hv; subst hv; exact V.c1
    | 2, hv => simp at hv; subst hv; exact V.c2
  simp [results, h, hp', asAddr, run_loadVar_mid w b 0 ty [x, y, z] d hr hu hd hi]

theorem rHost_none (w : World) (P : Nat → Prop) : rHost.rd w P [.slice none 0 0, .slice none 0 0, .int .i64 0] Hst.none :=
  ⟨[_], [_, _], rfl, ⟨none, 0, 0, rfl, rfl, Nat.le_refl _, fun _ => rfl, by decide, fun x hx => by cases hx⟩, [_], [_], rfl, ⟨none, 0, 0, rfl, rfl, Nat.le_refl _, fun _ => rfl, by decide, fun x hx => by cases hx⟩, rfl, by decide, by decide⟩

theorem rHost_bare (w : World) (P : Nat → Prop) (cp : Int) (h1 : -9223372036854775808 ≤ cp) (h2 : cp ≤ 9223372036854775807) : rHost.rd w P [.slice none 0 0, .slice none 0 0, .int .i64 cp] ([], [], cp) :=
  ⟨[_], [_, _], rfl, ⟨none, 0, 0, rfl, rfl, Nat.le_refl _, fun _ => rfl, by decide, fun x hx => by cases hx⟩, [_], [_], rfl, ⟨none, 0, 0, rfl, rfl, Nat.le_refl _, fun _ => rfl, by decide, fun x hx => by cases hx⟩, rfl, h1, h2⟩

theorem rHost_sectors {w : World} {P : Nat → Prop} {b : Option Addr} {n c : Nat} {L : List (List UInt8)} {cp : Int} (h : rSectors.rd w P [.slice b n c] L) (h1 : -9223372036854775808 ≤ cp) (h2 : cp ≤ 9223372036854775807) : rHost.rd w P [.slice b n c, .slice none 0 0, .int .i64 cp] (L, [], cp) :=
  ⟨[_], [_, _], rfl, h, [_], [_], rfl, ⟨none, 0, 0, rfl, rfl, Nat.le_refl _, fun _ => rfl, by decide, fun x hx => by cases hx⟩, rfl, h1, h2⟩

/-- A refusal: the answer's variable is written empty. -/
theorem refused3 {Pr : Program} {fn : Func} {p q : Tmp} {ty : TypeId} {tmps : Array Value} {w w2 : World} {b : Nat} {x y z : Value} {d : TypeDesc} {err : Int} (h : fn.results = #[.cell p ty, .tmp q]) (hp : tmps.getD p undef = .pointer (some ⟨b, 0, none⟩)) (hq : tmps.getD q undef = .int .i64 err)
    (V : Var3 w2 b x y z) (hu : Pr.underlying ty = some d) (hd : d.isRow = true) (hi : (Pr.info? ty).map (·.size) = some 3) (bel : Below w.heap.size w w2) (hb : w.heap.size ≤ b) :
    bodyPost Pr fn (HAns w Hst.none err) .ret { tmps := tmps, defers := [] } (((w2.setCell ⟨b, 0, none⟩ (.slice none 0 0)).setCell ⟨b, 1, none⟩ (.slice none 0 0)).setCell ⟨b, 2, none⟩ (.int .i64 0)) := by
  have T := V.whole (.slice none 0 0) (.slice none 0 0) (.int .i64 0)
  refine bodyPost_ret (results_var3t h hp T.1 hu hd hi) rfl ⟨[.slice none 0 0, .slice none 0 0, .int .i64 0], by rw [hq], rHost_none _ _, Kept.belowOf bel T.2 hb⟩

/-- A host that is answered: the variable is written with its cells. -/
theorem answered3 {Pr : Program} {fn : Func} {p q : Tmp} {ty : TypeId} {tmps : Array Value} {w w2 : World} {b : Nat} {x y z u0 u1 u2 : Value} {d : TypeDesc} {err : Int} {s : Host} (h : fn.results = #[.cell p ty, .tmp q]) (hp : tmps.getD p undef = .pointer (some ⟨b, 0, none⟩)) (hq : tmps.getD q undef = .int .i64 err)
    (V : Var3 w2 b x y z) (hu : Pr.underlying ty = some d) (hd : d.isRow = true) (hi : (Pr.info? ty).map (·.size) = some 3) (bel : Below w.heap.size w w2) (hb : w.heap.size ≤ b) {B : Nat} (hS : rHost.rd w2 (fun k => B ≤ k) [u0, u1, u2] s) (hB : b < B) (hB2 : w.heap.size ≤ B) :
    bodyPost Pr fn (HAns w s err) .ret { tmps := tmps, defers := [] } (((w2.setCell ⟨b, 0, none⟩ u0).setCell ⟨b, 1, none⟩ u1).setCell ⟨b, 2, none⟩ u2) := by
  have T := V.whole u0 u1 u2
  refine bodyPost_ret (results_var3t h hp T.1 hu hd hi) rfl ⟨[u0, u1, u2], by rw [hq], rHost.weaken (Rep.kept hS T.2 (fun k hk _ => by show k ≠ _; have h1 : B ≤ k := hk; omega)) (fun k hk _ => by have h1 : B ≤ k := hk; omega), Kept.belowOf bel T.2 hb⟩

set_option maxHeartbeats 800000 in
theorem new_u (w : World) (cp : Int) (h1 : -9223372036854775808 ≤ cp) (h2 : cp ≤ 9223372036854775807) : Calls Try.prog 49 #[.int .i64 cp] w (HAns w (Hst.newS cp) (Hst.newE cp)) := by
  obtain ⟨w1, hw1, -, -, -, b1, z1⟩ := boxed3 w 30 (.slice none 0 0) (.slice none 0 0) (.int .i64 0)
  have v1 : Var3 w1 w.heap.size (.slice none 0 0) (.slice none 0 0) (.int .i64 0) := by rw [← hw1]; exact var3_new _ _ _ _ _
  have V1 : Hid _ := v1
  have r0 := v1.c0
  have r1 := v1.c1
  have r2 := v1.c2
  have f0 := v1.f 0
  have f1 := v1.f 1
  have f2 := v1.f 2
  clear v1
  by_cases hc : 1 ≤ cp ∧ cp ≤ 65536
  · obtain ⟨hc1, hc2⟩ := hc
    have e1 : Hst.newE cp = 0 := if_pos ⟨hc1, hc2⟩
    have e2 : Hst.newS cp = ([], [], cp) := by unfold Hst.newS; rw [if_pos e1]
    rw [e1, e2]
    clear e1 e2
    go_enter Try.func49, Try.ntmps49
    go_wp2
    exact answered3 rfl rfl rfl V1.out Try.underlying30 rfl (by kernel_rfl) b1 (Nat.le_refl _) (B := w.heap.size + 1) (rHost_bare _ _ _ h1 h2) (by omega) (by omega)
  · have e1 : Hst.newE cp = 4 := if_neg hc
    have e2 : Hst.newS cp = Hst.none := by unfold Hst.newS; rw [if_neg (by rw [e1]; decide)]
    rw [e1, e2]
    clear e1 e2
    by_cases hc1 : cp < 1
    · go_enter Try.func49, Try.ntmps49
      go_wp2
      exact refused3 rfl rfl rfl V1.out Try.underlying30 rfl (by kernel_rfl) b1 (Nat.le_refl _)
    · have hc2 : 65536 < cp := by omega
      have hc3 : 1 ≤ cp := by omega
      clear hc hc1
      go_enter Try.func49, Try.ntmps49
      go_wp2
      exact refused3 rfl rfl rfl V1.out Try.underlying30 rfl (by kernel_rfl) b1 (Nat.le_refl _)

set_option maxHeartbeats 800000 in
theorem length_u (w : World) (P : Nat → Prop) (cs : List Value) (s : Host) (hS : rHost.rd w P cs s) :
    Calls Try.prog 21 #[.agg cs.toArray] w fun e w' => e = .returned (.tuple #[.int .i64 (Hst.lengthN s : Int), .int .i64 (Hst.checkE s)]) ∧ Below w.heap.size w w' := by
  have hS0 := hS
  obtain ⟨a, n, c, b, m, d, rfl, -⟩ := rHost_cells hS
  obtain ⟨w0, hw0, p0, p1, p2, b0, z0⟩ := boxed3 w 30 (.slice a n c) (.slice b m d) (.int .i64 s.2.2)
  have HS0 : Hid _ := Rep.below hS0 b0
  clear hS0 hS
  cases hok : Hst.ok s
  · have e1 : Hst.checkE s = 9 := by simp [Hst.checkE, hok]
    have e2 : Hst.lengthN s = 0 := by simp [Hst.lengthN, hok]
    have E1 : Hid _ := e1
    rw [e1, e2]
    clear e1 e2
    go_enter Try.func21, Try.ntmps21
    go_wp2_with (go_at_call 26; refine (check_u _ _ _ _ HS0.out).mono ?_; rintro e w1 ⟨rfl, b1⟩; rw [E1.out])
    go_ret2
    exact ⟨rfl, on b0 b1⟩
  · have e1 : Hst.checkE s = 0 := by simp [Hst.checkE, hok]
    have E1 : Hid _ := e1
    have HOK : Hid _ := hok
    rw [e1]
    clear e1 hok
    go_enter Try.func21, Try.ntmps21
    go_wp2_with (first
      | (go_at_call 26; refine (check_u _ _ _ _ HS0.out).mono ?_; rintro e w1 ⟨rfl, b1⟩; rw [E1.out]; have q0 := (b1.cell (p := ⟨w.heap.size, 0, none⟩) (by show w.heap.size < _; omega)).trans p0; have q1 := (b1.cell (p := ⟨w.heap.size, 1, none⟩) (by show w.heap.size < _; omega)).trans p1; have q2 := (b1.cell (p := ⟨w.heap.size, 2, none⟩) (by show w.heap.size < _; omega)).trans p2)
      | (go_at_call 43; refine (lengthOf_u _ _ _ _ (Rep.below HS0.out b1) HOK.out).mono ?_; rintro e w2 ⟨rfl, b2⟩))
    go_ret2
    exact ⟨rfl, on (on b0 b1) b2⟩

set_option maxHeartbeats 800000 in
theorem place_u (w : World) (P : Nat → Prop) (cs : List Value) (s : Host) (p : Int) (hS : rHost.rd w P cs s) :
    Calls Try.prog 33 #[.agg cs.toArray, .int .i64 p] w fun e w' => e = .returned (.int .i64 (Hst.readE s p)) ∧ Below w.heap.size w w' := by
  have hS0 := hS
  obtain ⟨a, n, c, b, m, d, rfl, -⟩ := rHost_cells hS
  obtain ⟨w0, hw0, p0, p1, p2, b0, z0⟩ := boxed3 w 30 (.slice a n c) (.slice b m d) (.int .i64 s.2.2)
  have HS0 : Hid _ := Rep.below hS0 b0
  clear hS0 hS
  cases hok : Hst.ok s
  · have e1 : Hst.checkE s = 9 := by simp [Hst.checkE, hok]
    have e2 : Hst.readE s p = 9 := by simp [Hst.readE, hok]
    have E1 : Hid _ := e1
    rw [e2]
    clear e1 e2
    go_enter Try.func33, Try.ntmps33
    go_wp2_with (go_at_call 26; refine (check_u _ _ _ _ HS0.out).mono ?_; rintro e w1 ⟨rfl, b1⟩; rw [E1.out])
    go_ret
    exact ⟨rfl, on b0 b1⟩
  · have e1 : Hst.checkE s = 0 := by simp [Hst.checkE, hok]
    have E1 : Hid _ := e1
    have HOK : Hid _ := hok
    have HE : Hid (Hst.readE s p = if 0 ≤ p ∧ p < (Hst.lengthN s : Int) then 0 else 4) := by unfold Hid Hst.readE; rw [if_pos hok, Hst.flush_length hok]
    generalize Hst.readE s p = E at *
    clear e1 hok
    go_enter Try.func33, Try.ntmps33
    go_wp2_with (first
      | (go_at_call 26; refine (check_u _ _ _ _ HS0.out).mono ?_; rintro e w1 ⟨rfl, b1⟩; rw [E1.out]; have q0 := (b1.cell (p := ⟨w.heap.size, 0, none⟩) (by show w.heap.size < _; omega)).trans p0; have q1 := (b1.cell (p := ⟨w.heap.size, 1, none⟩) (by show w.heap.size < _; omega)).trans p1; have q2 := (b1.cell (p := ⟨w.heap.size, 2, none⟩) (by show w.heap.size < _; omega)).trans p2)
      | (go_at_call 43; refine (lengthOf_u _ _ _ _ (Rep.below HS0.out b1) HOK.out).mono ?_; rintro e w2 ⟨rfl, b2⟩))
    all_goals go_ret
    all_goals refine ⟨?_, ?_⟩
    all_goals first
      | exact on b0 b1
      | exact on (on b0 b1) b2
      | (rw [HE.out, if_neg (by omega)]; rfl)
      | (rw [HE.out, if_pos (by omega)]; rfl)

end Go.Proofs.Ytckcicomkapdeaa
