/-
  The contract of Read. Conditions: those that each contract names.
-/
import Derived.Test.YtomfplmkbdalhabReader
namespace Go.Proofs.Ytomfplmkbdalhab
open Go.RowKit

theorem lt_of_cell {w : World} {a : Addr} {v : Value} (h : w.cell? a = some v) : a.block < w.heap.size := by
  unfold World.cell? at h
  by_cases hb : a.block < w.heap.size
  · exact hb
  · rw [Array.getElem?_eq_none (by omega)] at h
    simp at h

theorem IsB.below {w w1 : World} {a : Option Addr} {n : Nat} {l : List UInt8} (h : IsB w a n l) (hb : Below w.heap.size w w1) : IsB w1 a n l := by
  refine ⟨h.1, h.2.1, fun x hx j hj => ?_⟩
  have hc := h.2.2 x hx j hj
  rw [hb.cell (lt_of_cell hc)]
  exact hc

/-- A piece of octets. -/
theorem IsB.piece {w : World} {b off n : Nat} {l : List UInt8} (h : IsB w (some ⟨b, off, none⟩) n l) (p k : Nat) (hk : p + k ≤ n) : IsB w (some ⟨b, off + p, none⟩) k (Oct.cut l p k) := by
  have h1 := h.1
  refine ⟨Oct.cut_length l p k (by omega), fun (e : some _ = none) => (by cases e), fun x hx j hj => ?_⟩
  simp only [Option.some.injEq] at hx
  subst hx
  rw [Oct.cut_length l p k (by omega)] at hj
  have hc := h.2.2 _ rfl (p + j) (by omega)
  rw [Addr.add_lit] at hc ⊢
  rw [show off + p + j = off + (p + j) from by omega, hc]
  simp [Oct.cut]

set_option maxHeartbeats 400000 in
theorem read_neg (w : World) (a : Option Addr) (n c : Nat) (p : Int) (h : p < 0) :
    Calls Try.prog 10 #[.slice a n c, .int .i64 p] w fun e w' => e = .returned (.tuple #[.string ⟨#[]⟩, .int .i64 0, .int .i64 4]) ∧ w = w' := by
  go_enter Try.func10, Try.ntmps10
  go_wp2
  go_ret3
  exact ⟨rfl, rfl⟩

set_option maxHeartbeats 400000 in
theorem read_end (w : World) (a : Option Addr) (n c : Nat) (p : Nat) (P : Int) (hP : P = (p : Int)) (hp : p ≤ maxLen) (hn : n ≤ maxLen) (h : n < p + 1) :
    Calls Try.prog 10 #[.slice a n c, .int .i64 P] w fun e w' => e = .returned (.tuple #[.string ⟨#[]⟩, .int .i64 0, .int .i64 8]) ∧ Below w.heap.size w w' := by
  subst hP
  have hn' := hn
  have hp' := hp
  unfold maxLen at hn' hp'
  go_enter Try.func10, Try.ntmps10
  go_wp2_with (first | (go_at_call 13; refine (next_no _ _ n c p 1 _ rfl _ _ (by omega) (by omega) hn hp (by simp) (by simp) h).mono ?_; rintro e w1 ⟨rfl, rfl⟩) | go_in)
  go_ret3
  exact ⟨rfl, ((Below.refl _ _).alloc (Nat.le_refl _) _).alloc (by simp) _⟩

theorem two_new (w w1 : World) (o1 o2 : Obj) (v : Value) (h : ((w.alloc o1).alloc o2).setCell ⟨w.heap.size + 1, 0, none⟩ v = w1) : Below w.heap.size w w1 := by
  subst h
  exact (((Below.refl _ _).alloc (Nat.le_refl _) _).alloc (by simp) _).setCell (by simp) _

theorem one_cut (l : List UInt8) (p : Nat) (h : p < l.length) : Oct.num (Oct.cut l p 1) = l[p].toNat := by
  rw [Oct.num_cut_step l p 0 h]; simp [Oct.cut, Oct.num]

set_option maxHeartbeats 400000 in
theorem read_short (w : World) (a : Option Addr) (n c : Nat) (l : List UInt8) (p : Nat) (P : Int) (hP : P = (p : Int)) (hn : n ≤ maxLen) (hB : IsB w a n l) (hp : p < n) (h : n < p + 1 + (l.getD p 0).toNat) :
    Calls Try.prog 10 #[.slice a n c, .int .i64 P] w fun e w' => e = .returned (.tuple #[.string ⟨#[]⟩, .int .i64 0, .int .i64 8]) ∧ Below w.heap.size w w' := by
  subst hP
  have hn' := hn
  unfold maxLen at hn'
  have hl := hB.1
  have hu : (l.getD p 0).toNat < 256 := by have := (l.getD p 0).toNat_lt; simpa using this
  have e1 : Oct.num (Oct.cut l p 1) = (l.getD p 0).toNat := by
    have hlt : p < l.length := by omega
    rw [one_cut l p hlt]; simp [List.getD, List.getElem?_eq_getElem hlt]
  generalize (l.getD p 0).toNat = x at *
  have H : Hid (Oct.num (Oct.cut l p 1) = x) := e1
  clear e1
  go_enter Try.func10, Try.ntmps10
  go_wp2_with (first | (go_at_call 13; refine (next_ok _ a n c l p 1 _ rfl _ _ (by omega) (by omega) hn (hB.below (((Below.refl _ _).alloc (Nat.le_refl _) _).alloc (by simp) _)) (by simp) (by simp) (by simp) (by omega)).mono ?_; rintro e w1 ⟨rfl, hw1⟩; have hb1 := two_new _ _ _ _ _ hw1; clear hw1; rw [H.out]) | go_in)
  go_ret3
  exact ⟨rfl, hb1⟩

set_option maxHeartbeats 400000 in
theorem read_ok (w : World) (a : Option Addr) (n c : Nat) (l : List UInt8) (p : Nat) (P : Int) (hP : P = (p : Int)) (hn : n ≤ maxLen) (hc : n ≤ c) (hB : IsB w a n l) (hp : p < n) (h : p + 1 + (l.getD p 0).toNat ≤ n) :
    Calls Try.prog 10 #[.slice a n c, .int .i64 P] w fun e w' => e = .returned (.tuple #[.string ⟨(Oct.cut l (p + 1) (l.getD p 0).toNat).toArray⟩, .int .i64 ((p + 1 + (l.getD p 0).toNat : Nat) : Int), .int .i64 0]) ∧ Below w.heap.size w w' := by
  subst hP
  have hn' := hn
  unfold maxLen at hn'
  have hl := hB.1
  have hu : (l.getD p 0).toNat < 256 := by have := (l.getD p 0).toNat_lt; simpa using this
  have e1 : Oct.num (Oct.cut l p 1) = (l.getD p 0).toNat := by
    have hlt : p < l.length := by omega
    rw [one_cut l p hlt]; simp [List.getD, List.getElem?_eq_getElem hlt]
  generalize (l.getD p 0).toNat = x at *
  have H : Hid (Oct.num (Oct.cut l p 1) = x) := e1
  clear e1
  obtain ⟨b, off, rfl, _⟩ := hB.place (by omega)
  by_cases hcp : c = p + 1
  · have hx : x = 0 := by omega
    subst hx
    subst hcp
    have hnp : n = p + 1 := by omega
    have HN : Hid (n = p + 1) := hnp
    clear hnp
    have ec : ∀ wx, (convert 24 9 (.slice (some ⟨b, off, none⟩) 0 0)).run Try.prog wx = .ok (.string ⟨#[]⟩) wx := fun wx => conv_bytes wx _ 0 0 [] ⟨rfl, fun _ => rfl, fun _ _ j hj => absurd hj (Nat.not_lt_zero j)⟩
    go_enter Try.func10, Try.ntmps10
    go_wp2_with (first | (go_at_call 13; refine (next_ok _ _ n (p + 1) l p 1 _ rfl _ _ (by omega) (by omega) hn (hB.below (((Below.refl _ _).alloc (Nat.le_refl _) _).alloc (by simp) _)) (by simp) (by simp) (by simp) (by omega)).mono ?_; rintro e w1 ⟨rfl, hw1⟩; have hb1 := two_new _ _ _ _ _ hw1; clear hw1; rw [H.out]) | go_in)
    go_ret3
    exact ⟨by simp [Oct.cut], hb1⟩
  · have hcp' : ¬ p + 1 = c := fun e => hcp e.symm
    go_enter Try.func10, Try.ntmps10
    go_wp2_with (first | (go_at_call 13; refine (next_ok _ _ n c l p 1 _ rfl _ _ (by omega) (by omega) hn (hB.below (((Below.refl _ _).alloc (Nat.le_refl _) _).alloc (by simp) _)) (by simp) (by simp) (by simp) (by omega)).mono ?_; rintro e w1 ⟨rfl, hw1⟩; have hb1 := two_new _ _ _ _ _ hw1; clear hw1; rw [H.out]; have ec := conv_bytes w1 _ x (c - (p + 1)) _ ((hB.below hb1).piece (p + 1) x (by omega))) | go_in)
    go_ret3
    exact ⟨by simp, hb1⟩

end Go.Proofs.Ytomfplmkbdalhab
