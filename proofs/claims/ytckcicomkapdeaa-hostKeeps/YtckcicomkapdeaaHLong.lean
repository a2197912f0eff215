/-
  Lists of values of one cell each; the contract of how long a host comes to be. Conditions: those that each lemma names.
-/
import Derived.Test.YtckcicomkapdeaaHLaid
import Derived.Test.YtckcicomkapdeaaROpen
namespace Go.Proofs.Ytckcicomkapdeaa
open Go.RowKit
set_option linter.unusedVariables false

/-- Values of one cell each, one for one. -/
structure Each {α : Type} (A : Rep α) (w : World) (P : Nat → Prop) (xs : List Value) (l : List α) : Prop where
  len : xs.length = l.length
  rd : ∀ (j : Nat) (v : Value) (x : α), xs[j]? = some v → l[j]? = some x → A.rd w P [v] x

theorem Each.nil {α : Type} (A : Rep α) (w : World) (P : Nat → Prop) : Each A w P [] [] := ⟨rfl, fun j v x h => by simp at h⟩

theorem Each.all {α : Type} {A : Rep α} {w : World} {P : Nat → Prop} : ∀ {xs : List Value} {l : List α}, Each A w P xs l → rdAll A w P xs l
  | [], [], _ => rfl
  | [], _ :: _, h => by have := h.len; simp at this
  | _ :: _, [], h => by have := h.len; simp at this
  | v :: xs, x :: l, h => ⟨[v], xs, rfl, h.rd 0 v x rfl rfl, Each.all ⟨by have := h.len; simpa using this, fun j v' x' h1 h2 => h.rd (j + 1) v' x' (by simpa using h1) (by simpa using h2)⟩⟩

theorem Each.keep {α : Type} {A : Rep α} {w w' : World} {P : Nat → Prop} {xs : List Value} {l : List α} (h : Each A w P xs l) (hk : ∀ b, P b → b < w.heap.size → w'.heap[b]? = w.heap[b]?) : Each A w' P xs l :=
  ⟨h.len, fun j v x h1 h2 => A.keep (h.rd j v x h1 h2) hk⟩

theorem Each.set {α : Type} {A : Rep α} {w : World} {P : Nat → Prop} {xs : List Value} {l : List α} (h : Each A w P xs l) (k : Nat) {v : Value} {x : α} (hv : A.rd w P [v] x) : Each A w P (xs.set k v) (l.set k x) := by
  refine ⟨by simp [h.len], fun j v' x' h1 h2 => ?_⟩
  rw [List.getElem?_set] at h1 h2
  by_cases e : k = j
  · subst e
    rw [if_pos rfl] at h1 h2
    split at h1
    · split at h2
      · cases h1; cases h2; exact hv
      · cases h2
    · cases h1
  · rw [if_neg e] at h1 h2
    exact h.rd j v' x' h1 h2

theorem Each.append {α : Type} {A : Rep α} {w : World} {P : Nat → Prop} {xs ys : List Value} {l m : List α} (h : Each A w P xs l) (k : Each A w P ys m) : Each A w P (xs ++ ys) (l ++ m) := by
  refine ⟨by simp [h.len, k.len], fun j v x h1 h2 => ?_⟩
  by_cases e : j < xs.length
  · rw [List.getElem?_append_left e] at h1
    rw [List.getElem?_append_left (by rw [← h.len]; exact e)] at h2
    exact h.rd j v x h1 h2
  · rw [List.getElem?_append_right (by omega)] at h1
    rw [List.getElem?_append_right (by rw [← h.len]; omega), ← h.len] at h2
    exact k.rd _ v x h1 h2

theorem Each.take {α : Type} {A : Rep α} {w : World} {P : Nat → Prop} {xs : List Value} {l : List α} (h : Each A w P xs l) (k : Nat) : Each A w P (xs.take k) (l.take k) := by
  refine ⟨by simp [h.len], fun j v x h1 h2 => ?_⟩
  rw [List.getElem?_take] at h1 h2
  split at h1
  · rename_i hj
    rw [if_pos hj] at h2
    exact h.rd j v x h1 h2
  · cases h1

theorem Each.replicate {α : Type} {A : Rep α} {w : World} {P : Nat → Prop} {v : Value} {x : α} (n : Nat) (h : A.rd w P [v] x) : Each A w P (List.replicate n v) (List.replicate n x) := by
  refine ⟨by simp, fun j v' x' h1 h2 => ?_⟩
  rw [List.getElem?_replicate] at h1 h2
  split at h1
  · rename_i hj
    rw [if_pos hj] at h2
    cases h1; cases h2; exact h
  · cases h1

/-- A list whose elements have one cell each: their values. -/
theorem values_of {α : Type} {A : Rep α} {hs : 0 < A.size} (h1 : A.size = 1) {w : World} {P : Nat → Prop} {a : Option Addr} {n c : Nat} {l : List α} (h : (rList A hs).rd w P [.slice a n c] l) :
    ∃ xs : List Value, Each A w P xs l ∧ (∀ v ∈ xs, v.oneCell' = true) ∧ (0 < xs.length → ∃ ad, a = some ad ∧ ∀ (j : Nat) (v : Value), xs[j]? = some v → w.cell? (ad.add j) = some v) := by
  obtain ⟨a', n', c', e, g1, g2, g3, g4, g5⟩ := h
  simp only [List.cons.injEq, Value.slice.injEq, and_true] at e
  obtain ⟨rfl, rfl, rfl⟩ := e
  cases a with
  | none =>
    have hn := g3 rfl
    have hl : l = [] := List.eq_nil_of_length_eq_zero (by omega)
    subst hl
    exact ⟨[], Each.nil _ _ _, (fun v hv => by cases hv), (fun h => by simp at h)⟩
  | some ad =>
    have hE := g5 ad rfl
    have each : ∀ j, j < l.length → ∃ v : Value, ∀ x, l[j]? = some x → A.rd w P [v] x ∧ w.cell? (ad.add j) = some v := by
      intro j hj
      obtain ⟨_, cj, k1, k2⟩ := hE j hj
      have hl := A.len k1
      rw [h1] at hl
      obtain ⟨v, rfl⟩ := List.length_eq_one_iff.1 hl
      refine ⟨v, fun x hx => ?_⟩
      rw [List.getElem?_eq_getElem hj] at hx
      cases hx
      refine ⟨k1, ?_⟩
      have := k2 0 v rfl
      rwa [h1, Nat.mul_one, Nat.add_zero] at this
    obtain ⟨xs, hx1, hx2⟩ := exists_list l.length each
    have hE : Each A w P xs l := ⟨hx1, fun j v x h3 h4 => by
      obtain ⟨hj, rfl⟩ := List.getElem?_eq_some_iff.1 h3
      exact (hx2 j hj x h4).1⟩
    refine ⟨xs, hE, fun v hv => ?_, fun _ => ⟨ad, rfl, fun j v h3 => ?_⟩⟩
    · obtain ⟨j, hj, rfl⟩ := List.getElem_of_mem hv
      have hj' : j < l.length := by omega
      exact A.one (hx2 j hj _ (List.getElem?_eq_getElem hj')).1 _ (by simp)
    · obtain ⟨hj, rfl⟩ := List.getElem?_eq_some_iff.1 h3
      have hj' : j < l.length := by omega
      exact (hx2 j hj _ (List.getElem?_eq_getElem hj')).2

theorem Each.pad {w : World} {P : Nat → Prop} {xs : List Value} {L : List (List UInt8)} (h : Each rBytes w P xs L) (h64 : ∀ b ∈ L, b.length = 64) : Each rPad w P xs L :=
  ⟨h.len, fun j v x h1 h2 => ⟨x, h.rd j v x h1 h2, (lay_full (h64 x (List.mem_of_getElem? h2))).symm⟩⟩

theorem pad_nil (w : World) (P : Nat → Prop) : rPad.rd w P [.slice none 0 0] Hst.zeros := ⟨[], rBytes_nil _ _, rfl⟩

set_option maxHeartbeats 1000000 in
theorem longest_u (w : World) (P : Nat → Prop) (cs : List Value) (s : Host) (hS : rHost.rd w P cs s) (hok : Hst.ok s = true) :
    Calls Try.prog 51 #[.agg cs.toArray] w fun e w' => ∃ N : Nat, e = .returned (.int .i64 N) ∧ s.1.length ≤ N ∧ (∀ j (h : j < s.2.1.length), s.2.1[j].1 = 2 → s.2.1[j].2.1 ≤ N) ∧ N ≤ 65536 ∧ Below w.heap.size w w' := by
  obtain ⟨a, n, c, b, m, d, rfl, hA, hW, hn, hm, hc1, hc2, hn2, hm2⟩ := rHost_cells hS
  obtain ⟨o1, o2, hm3, hsec, hacts⟩ := Hst.ok_parts hok
  obtain ⟨L, W, cp⟩ := s
  simp only at hn hm hc1 hc2 hA hW hm3 hsec hacts o1 o2
  have HN : Hid _ := hn
  have HM : Hid _ := hm
  have HACT : Hid _ := hacts
  have hnc : (n : Int) ≤ cp := by rw [← hn]; exact hsec.1
  obtain ⟨w0, hw0, p0, p1, p2, b0, z0⟩ := boxed3 w 30 (.slice a n c) (.slice b m d) (.int .i64 cp)
  have hW0 := Rep.below hW b0
  clear hS hn hm hA hW hacts hsec hok hm3
  go_enter Try.func51, Try.ntmps51
  go_wp2
  clear hw0 p0 p1 p2
  go_loopw [3, 12] (fun s i wr => ∃ (k N : Nat), k ≤ m ∧ i = .int .i64 k ∧ s = .int .i64 N ∧ n ≤ N ∧ (N : Int) ≤ cp ∧ Hid (∀ j (h : j < W.length), j < k → W[j].1 = 2 → W[j].2.1 ≤ N) ∧ Below w0.heap.size w0 wr) (fun _ i _ => m - (intOf i).toNat)
  case atStart => exact ⟨0, n, Nat.zero_le _, rfl, rfl, Nat.le_refl _, hnc, (fun j _ h => by omega), Below.refl _ _⟩
  case round =>
    obtain ⟨k, N, hk, rfl, rfl, hnN, hNc, HK, bel⟩ := hrel
    by_cases hlt : k < m
    · have hWr := Rep.below hW0 bel
      obtain ⟨g, off, rfl, -, hgl, hat⟩ := rWaits_at hWr (by omega)
      have hkl : k < W.length := by rw [HM.out]; exact hlt
      obtain ⟨x, l, e, -, -, c0, c1, c2, -, -⟩ := hat k hkl
      have hz : w0.heap.size ≤ wr.heap.size := bel.size
      have HP : Hid (0 ≤ W[k].2.1 ∧ W[k].2.1 ≤ cp) := by
        unfold Hid
        rcases Hst.act_one_two (HACT.out _ (List.getElem_mem hkl)) with h | h <;> omega
      have HNEXT : Hid (∀ N' : Nat, N ≤ N' → (W[k].1 = 2 → W[k].2.1 ≤ N') → ∀ j (h : j < W.length), j < k + 1 → W[j].1 = 2 → W[j].2.1 ≤ N') := by
        intro N' h1 h2 j hj hjk h3
        by_cases ejk : j = k
        · subst ejk; exact h2 h3
        · have := HK.out j hj (by omega) h3; omega
      clear hat hWr
      generalize W[k].1 = what at *
      generalize W[k].2.1 = pos at *
      obtain ⟨t, rfl⟩ : ∃ t : Nat, pos = t := ⟨pos.toNat, by have := HP.out; omega⟩
      by_cases h2 : what = 2
      · subst h2
        by_cases hmx : N ≤ t
        · go_wp2
          go_roundw
          case rel => exact ⟨k + 1, t, by omega, by go_num, by simp; omega, by omega, HP.out.2, HNEXT.out t hmx (fun _ => by omega), bel.alloc hz _⟩
          case measure => simp [intOf]; omega
        · go_wp2
          go_roundw
          case rel => exact ⟨k + 1, N, by omega, by go_num, by simp; omega, hnN, hNc, HNEXT.out N (Nat.le_refl _) (fun _ => by omega), bel.alloc hz _⟩
          case measure => simp [intOf]; omega
      · have hne : (what == 2) = false := beq_eq_false_iff_ne.2 h2
        have H2 : Hid _ := h2
        clear h2
        go_wp2
        go_roundw
        case rel => exact ⟨k + 1, N, by omega, by go_num, rfl, hnN, hNc, HNEXT.out N (Nat.le_refl _) (fun h => absurd h H2.out), bel.alloc hz _⟩
        case measure => simp [intOf]; omega
    · obtain rfl : k = m := by omega
      go_wp2
      go_ret
      exact ⟨N, rfl, by show L.length ≤ N; rw [HN.out]; exact hnN, (fun j hj h => HK.out j hj (by rw [← HM.out]; exact hj) h), by omega, on b0 bel⟩

end Go.Proofs.Ytckcicomkapdeaa
