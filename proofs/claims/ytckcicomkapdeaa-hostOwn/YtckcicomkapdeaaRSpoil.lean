/-
  Octets written over: what stays; the contracts of one list of octets spoilt, and of many. Conditions: those that each lemma names.
-/
import Derived.Test.YtckcicomkapdeaaROfF
namespace Go.Proofs.Ytckcicomkapdeaa
open Go.RowKit
set_option linter.unusedVariables false

/-- Octets in blocks of which S holds may have turned into other octets; nothing else has turned. -/
structure Spoilt (S : Nat → Prop) (w w' : World) : Prop where
  os : w'.os = w.os
  tape : w'.tape = w.tape
  output : w'.output = w.output
  size : w'.heap.size = w.heap.size
  block : ∀ b, ¬ S b → w'.heap[b]? = w.heap[b]?
  u8 : ∀ a n, w.cell? a = some (.int .u8 n) → ∃ n', w'.cell? a = some (.int .u8 n')
  other : ∀ a v, w.cell? a = some v → (∀ n, v ≠ .int .u8 n) → w'.cell? a = some v
  frozen : ∀ a, w'.frozen? a = w.frozen? a

theorem Spoilt.refl (S : Nat → Prop) (w : World) : Spoilt S w w := ⟨rfl, rfl, rfl, rfl, fun _ _ => rfl, fun _ n h => ⟨n, h⟩, fun _ _ h _ => h, fun _ => rfl⟩
theorem Spoilt.trans {S : Nat → Prop} {a b c : World} (h : Spoilt S a b) (k : Spoilt S b c) : Spoilt S a c :=
  ⟨k.os.trans h.os, k.tape.trans h.tape, k.output.trans h.output, k.size.trans h.size, fun i hi => (k.block i hi).trans (h.block i hi),
   fun x n hx => by obtain ⟨n', h1⟩ := h.u8 x n hx; exact k.u8 x n' h1, fun x v hx hv => k.other x v (h.other x v hx hv) hv, fun x => (k.frozen x).trans (h.frozen x)⟩
theorem Spoilt.kept {S : Nat → Prop} {w w' : World} (h : Spoilt S w w') : Kept (fun b => ¬ S b) w w' := ⟨h.os, h.tape, h.output, by rw [h.size]; exact Nat.le_refl _, fun b hb => h.block b hb⟩
theorem Spoilt.set {S : Nat → Prop} {w : World} {p : Addr} {n : Int} (hp : w.cell? p = some (.int .u8 n)) (hs : S p.block) (n' : Int) : Spoilt S w (w.setCell p (.int .u8 n')) := by
  refine ⟨rfl, rfl, rfl, by simp, fun b hb => Below.heap_setCell _ _ _ _ (fun e => hb (e ▸ hs)), fun a m ha => ?_, fun a v ha hv => ?_, fun a => World.frozen?_setCell ..⟩
  · by_cases e : a = p
    · subst e; exact ⟨n', World.cell?_setCell_same _ _ _ ha⟩
    · exact ⟨m, by rw [World.cell?_setCell_other _ _ _ _ (fun h => e h.symm)]; exact ha⟩
  · by_cases e : a = p
    · subst e; rw [hp] at ha; cases ha; exact absurd rfl (hv n)
    · rw [World.cell?_setCell_other _ _ _ _ (fun h => e h.symm)]; exact ha

/-- A slice of octets that may be written over, in blocks of which S holds. -/
def Octs (S : Nat → Prop) (w : World) (a : Option Addr) (n : Nat) : Prop :=
  n = 0 ∨ ∃ b off, a = some ⟨b, off, none⟩ ∧ S b ∧ ∀ j, j < n → (∃ m, w.cell? ⟨b, off + j, none⟩ = some (.int .u8 m)) ∧ w.frozen? ⟨b, off + j, none⟩ = false

theorem Octs.spoilt {S : Nat → Prop} {w w' : World} {a : Option Addr} {n : Nat} (h : Octs S w a n) (k : Spoilt S w w') : Octs S w' a n := by
  rcases h with h | ⟨b, off, h1, h2, h3⟩
  · exact .inl h
  · exact .inr ⟨b, off, h1, h2, fun j hj => ⟨by obtain ⟨m, hm⟩ := (h3 j hj).1; exact k.u8 _ _ hm, by rw [k.frozen]; exact (h3 j hj).2⟩⟩

theorem octs_of {w : World} {P : Nat → Prop} {a : Option Addr} {n c : Nat} {l : List UInt8} (h : rFree.rd w P [.slice a n c] l) : Octs P w a n := by
  have hl := (rBytes_isB h.1).1.1
  by_cases h0 : n = 0
  · exact .inl h0
  · obtain ⟨b, off, e1, e2, e3, e4⟩ := rList_at (A := rByte) h.1 (by omega)
    subst e1
    refine .inr ⟨b, off, rfl, e2, fun j hj => ⟨?_, ?_⟩⟩
    · obtain ⟨cj, g1, g2⟩ := e4 j (by omega)
      have g1' : cj = [.int .u8 (l[j].toNat : Int)] := g1
      subst g1'
      have := g2 0 _ rfl
      rw [show j * rByte.size + 0 = j from by show j * 1 + 0 = j; omega] at this
      exact ⟨_, this⟩
    · have := h.2 _ _ _ rfl _ rfl j hj
      rwa [Addr.add_lit] at this

set_option maxHeartbeats 800000 in
theorem spoil_s (w : World) (S : Nat → Prop) (a : Option Addr) (n c : Nat) (hn : n ≤ 140737488355328) (h : Octs S w a n) :
    Calls Try.prog 30 #[.slice a n c] w fun e w' => e = .returned (.tuple #[]) ∧ Spoilt S w w' := by
  have H : Hid (Octs S w a n) := h
  clear h
  go_enter Try.func30, Try.ntmps30
  go_wp2
  go_loopw [2] (fun i wr => ∃ k : Nat, k ≤ n ∧ i = .int .i64 k ∧ Hid (Spoilt S w wr)) (fun i _ => n - (intOf i).toNat)
  case atStart => exact ⟨0, Nat.zero_le _, rfl, Spoilt.refl _ _⟩
  case round =>
    obtain ⟨k, hk, rfl, SP⟩ := hrel
    by_cases hlt : k < n
    · rcases Octs.spoilt H.out SP.out with h0 | ⟨b, off, rfl, hs, hat⟩
      · omega
      · obtain ⟨⟨m, hm⟩, hf⟩ := hat k hlt
        have HC : Hid _ := hm
        have HS : Hid _ := hs
        clear hat hs
        go_wp2
        go_roundw
        case rel => exact ⟨k + 1, by omega, by go_num, SP.out.trans (Spoilt.set HC.out HS.out _)⟩
        case measure => simp [intOf]; omega
    · go_wp2
      go_end0
      exact ⟨rfl, SP.out⟩

/-- A list of such slices. -/
def OctsAll (S : Nat → Prop) (w : World) (a : Option Addr) (n : Nat) : Prop :=
  n = 0 ∨ ∃ b off, a = some ⟨b, off, none⟩ ∧ ∀ j, j < n → ∃ x m d, w.cell? ⟨b, off + j, none⟩ = some (.slice x m d) ∧ m ≤ 140737488355328 ∧ Octs S w x m

theorem OctsAll.spoilt {S : Nat → Prop} {w w' : World} {a : Option Addr} {n : Nat} (h : OctsAll S w a n) (k : Spoilt S w w') : OctsAll S w' a n := by
  rcases h with h | ⟨b, off, h1, h3⟩
  · exact .inl h
  · exact .inr ⟨b, off, h1, fun j hj => by obtain ⟨x, m, d, g1, g2, g3⟩ := h3 j hj; exact ⟨x, m, d, k.other _ _ g1 (fun n e => by cases e), g2, g3.spoilt k⟩⟩

theorem octsAll_of {w : World} {P : Nat → Prop} {a : Option Addr} {n c : Nat} {L : List (List UInt8)} (h : rFrees.rd w P [.slice a n c] L) : OctsAll P w a n := by
  by_cases h0 : n = 0
  · exact .inl h0
  · have hl := (rSectors_len (frees_sectors h)).1
    obtain ⟨b, off, e1, -, -, e4⟩ := rList_at h (by omega)
    refine .inr ⟨b, off, e1, fun j hj => ?_⟩
    obtain ⟨cj, g1, g2⟩ := e4 j (by omega)
    have g1' := g1
    obtain ⟨⟨x, m, d, rfl, -⟩, -⟩ := g1
    have := g2 0 (.slice x m d) rfl
    rw [show j * rFree.size + 0 = j from by show j * 1 + 0 = j; omega] at this
    exact ⟨x, m, d, this, by have := (rBytes_isB g1'.1).2.2.2; omega, octs_of g1'⟩

set_option maxHeartbeats 800000 in
theorem spoilList_s (w : World) (S : Nat → Prop) (a : Option Addr) (n c : Nat) (hn : n ≤ 5864062014634) (h : OctsAll S w a n) :
    Calls Try.prog 31 #[.slice a n c] w fun e w' => e = .returned (.tuple #[]) ∧ Spoilt S w w' := by
  have H : Hid (OctsAll S w a n) := h
  clear h
  go_enter Try.func31, Try.ntmps31
  go_wp2
  go_loopw [2] (fun i wr => ∃ k : Nat, k ≤ n ∧ i = .int .i64 k ∧ Hid (Spoilt S w wr)) (fun i _ => n - (intOf i).toNat)
  case atStart => exact ⟨0, Nat.zero_le _, rfl, Spoilt.refl _ _⟩
  case round =>
    obtain ⟨k, hk, rfl, SP⟩ := hrel
    by_cases hlt : k < n
    · rcases OctsAll.spoilt H.out SP.out with h0 | ⟨b, off, rfl, hat⟩
      · omega
      · obtain ⟨x, m, d, hc, hm, ho⟩ := hat k hlt
        have HO : Hid _ := ho
        clear hat ho
        go_wp2_with (go_at_call 30; refine (spoil_s _ S x m d hm HO.out).mono ?_; rintro e w5 ⟨rfl, sp5⟩)
        go_roundw
        case rel => exact ⟨k + 1, by omega, by go_num, SP.out.trans sp5⟩
        case measure => simp [intOf]; omega
    · go_wp2
      go_end0
      exact ⟨rfl, SP.out⟩

/-- Acts whose octets may be written over. -/
def ActsAll (S : Nat → Prop) (w : World) (a : Option Addr) (n : Nat) : Prop :=
  n = 0 ∨ ∃ b off, a = some ⟨b, off, none⟩ ∧ ∀ j, j < n → ∃ x m d, w.cell? ⟨b, off + j * 3 + 2, none⟩ = some (.slice x m d) ∧ m ≤ 140737488355328 ∧ Octs S w x m

theorem ActsAll.spoilt {S : Nat → Prop} {w w' : World} {a : Option Addr} {n : Nat} (h : ActsAll S w a n) (k : Spoilt S w w') : ActsAll S w' a n := by
  rcases h with h | ⟨b, off, h1, h3⟩
  · exact .inl h
  · exact .inr ⟨b, off, h1, fun j hj => by obtain ⟨x, m, d, g1, g2, g3⟩ := h3 j hj; exact ⟨x, m, d, k.other _ _ g1 (fun n e => by cases e), g2, g3.spoilt k⟩⟩

theorem actsAll_of {w : World} {P : Nat → Prop} {a : Option Addr} {n c : Nat} {L : List Act} (h : rWaitsF.rd w P [.slice a n c] L) (hl : L.length = n) : ActsAll P w a n := by
  by_cases h0 : n = 0
  · exact .inl h0
  · obtain ⟨b, off, e1, -, -, e4⟩ := rList_at h (by omega)
    refine .inr ⟨b, off, e1, fun j hj => ?_⟩
    obtain ⟨cj, g1, g2⟩ := e4 j (by omega)
    obtain ⟨c0, d0, rfl, ⟨rfl, -⟩, c1, d1, rfl, ⟨rfl, -⟩, g3⟩ := g1
    have g3' := g3
    obtain ⟨⟨x, m, d, rfl, -⟩, -⟩ := g3
    have := g2 2 (.slice x m d) rfl
    rw [show rActF.size = 3 from rfl, ← Nat.add_assoc] at this
    exact ⟨x, m, d, this, by have := (rBytes_isB g3'.1).2.2.2; omega, octs_of g3'⟩

end Go.Proofs.Ytckcicomkapdeaa
