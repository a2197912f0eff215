/-
  Facts that the proof rests on, part 1. Conditions: those that each of them names.
-/
import Derived.Deep.MidRow
import Derived.Maps.AppendAt
import Derived.WalkKit
import Derived.WalkLawsBesides
import Derived.WalkSpells
namespace Go.Proofs.YtkbmadoaomoojaaGreat
set_option maxRecDepth 20000
open Go.RowKit
set_option linter.unusedVariables false
structure Rep (α : Type) where
 size : Nat
 bytes : Nat
 rd : World → (Nat → Prop) → List Value → α → Prop
 len : ∀ {w : World} {P : Nat → Prop} {cs : List Value} {x : α}, rd w P cs x → cs.length = size
 one : ∀ {w : World} {P : Nat → Prop} {cs : List Value} {x : α}, rd w P cs x → ∀ v ∈ cs, v.oneCell' = true
 keep : ∀ {w w' : World} {P : Nat → Prop} {cs : List Value} {x : α}, rd w P cs x → (∀ b, P b → b < w.heap.size → w'.heap[b]? = w.heap[b]?) → rd w' P cs x
 weaken : ∀ {w : World} {P P' : Nat → Prop} {cs : List Value} {x : α}, rd w P cs x → (∀ b, P b → b < w.heap.size → P' b) → rd w P' cs x
def rInt : Rep Int where
 size := 1
 bytes := 8
 rd _ _ cs x := cs = [.int .i64 x] ∧ -9223372036854775808 ≤ x ∧ x ≤ 9223372036854775807
 len h := by rw [h.1]; rfl
 one h v hv := by rw [h.1] at hv; simp at hv; subst hv; rfl
 keep h _ := h
 weaken h _ := h
def rByte : Rep UInt8 where
 size := 1
 bytes := 1
 rd _ _ cs x := cs = [.int .u8 (x.toNat : Int)]
 len h := by rw [h]; rfl
 one h v hv := by rw [h] at hv; simp at hv; subst hv; rfl
 keep h _ := h
 weaken h _ := h
def rU64 : Rep UInt64 where
 size := 1
 bytes := 8
 rd _ _ cs x := cs = [.int .u64 (x.toNat : Int)]
 len h := by rw [h]; rfl
 one h v hv := by rw [h] at hv; simp at hv; subst hv; rfl
 keep h _ := h
 weaken h _ := h
def rPair {α β : Type} (A : Rep α) (B : Rep β) : Rep (α × β) where
 size := A.size + B.size
 bytes := A.bytes + B.bytes
 rd w P cs x := ∃ c d, cs = c ++ d ∧ A.rd w P c x.1 ∧ B.rd w P d x.2
 len := by rintro w P cs x ⟨c, d, rfl, h1, h2⟩; rw [List.length_append, A.len h1, B.len h2]
 one := by
  rintro w P cs x ⟨c, d, rfl, h1, h2⟩ v hv
  rcases List.mem_append.1 hv with hv | hv
  · exact A.one h1 v hv
  · exact B.one h2 v hv
 keep := by rintro w w' P cs x ⟨c, d, rfl, h1, h2⟩ hk; exact ⟨c, d, rfl, A.keep h1 hk, B.keep h2 hk⟩
 weaken := by rintro w P P' cs x ⟨c, d, rfl, h1, h2⟩ hk; exact ⟨c, d, rfl, A.weaken h1 hk, B.weaken h2 hk⟩
def Elems {α : Type} (A : Rep α) (w : World) (P : Nat → Prop) (x : Addr) (l : List α) : Prop :=
 ∀ (j : Nat) (h : j < l.length), P x.block ∧ ∃ cj, A.rd w P cj l[j] ∧ ∀ (k : Nat) (v : Value), cj[k]? = some v → w.cell? (x.add (j * A.size + k)) = some v
theorem add_block (x : Addr) (k : Nat) : (x.add k).block = x.block := by unfold Addr.add; split <;> rfl
theorem Elems.block {α : Type} {A : Rep α} {w : World} {P : Nat → Prop} {x : Addr} {l : List α} (hs : 0 < A.size) (h : Elems A w P x l) (j : Nat) (hj : j < l.length) : x.block < w.heap.size := by
 obtain ⟨_, cj, h1, h2⟩ := h j hj
 have hl := A.len h1
 have := h2 0 _ (List.getElem?_eq_getElem (by omega))
 have hb := World.block_lt_of_cell? w _ this
 rwa [add_block] at hb
def rList {α : Type} (A : Rep α) (hs : 0 < A.size) : Rep (List α) where
 size := 1
 bytes := 24
 rd w P cs l := ∃ a n c, cs = [.slice a n c] ∧ l.length = n ∧ n ≤ c ∧ (a = none → c = 0) ∧ n * A.bytes ≤ 140737488351232 ∧ ∀ x, a = some x → Elems A w P x l
 len := by rintro w P cs x ⟨a, n, c, rfl, _⟩; rfl
 one := by rintro w P cs x ⟨a, n, c, rfl, _⟩ v hv; simp at hv; subst hv; rfl
 keep := by
  rintro w w' P cs l ⟨a, n, c, rfl, h1, h2, h3, h4, h5⟩ hk
  refine ⟨a, n, c, rfl, h1, h2, h3, h4, fun x hx j hj => ?_⟩
  have hb := Elems.block hs (h5 x hx) j hj
  obtain ⟨hp, cj, g1, g2⟩ := h5 x hx j hj
  refine ⟨hp, cj, A.keep g1 hk, fun k v hv => ?_⟩
  have := World.cell?_of_block (w := w) (w' := w') (a := x.add (j * A.size + k)) (by rw [add_block]; exact hk _ hp hb)
  rw [this]
  exact g2 k v hv
 weaken := by
  rintro w P P' cs l ⟨a, n, c, rfl, h1, h2, h3, h4, h5⟩ hk
  refine ⟨a, n, c, rfl, h1, h2, h3, h4, fun x hx j hj => ?_⟩
  have hb := Elems.block hs (h5 x hx) j hj
  obtain ⟨hp, cj, g1, g2⟩ := h5 x hx j hj
  exact ⟨hk _ hp hb, cj, A.weaken g1 hk, g2⟩
def rdAll {α : Type} (A : Rep α) (w : World) (P : Nat → Prop) : List Value → List α → Prop
 | xs, [] => xs = []
 | xs, x :: l => ∃ c r, xs = c ++ r ∧ A.rd w P c x ∧ rdAll A w P r l
theorem rdAll_one {α : Type} {A : Rep α} {w : World} {P : Nat → Prop} : ∀ {l : List α} {xs : List Value}, rdAll A w P xs l → ∀ v ∈ xs, v.oneCell' = true
 | [], _, h, v, hv => by rw [show _ = [] from h] at hv; cases hv
 | _ :: _, _, ⟨c, r, e, h1, h2⟩, v, hv => by
   rw [e] at hv
   rcases List.mem_append.1 hv with hv | hv
   · exact A.one h1 v hv
   · exact rdAll_one h2 v hv
theorem rdAll_keep {α : Type} {A : Rep α} {w w' : World} {P : Nat → Prop} (hk : ∀ b, P b → b < w.heap.size → w'.heap[b]? = w.heap[b]?) : ∀ {l : List α} {xs : List Value}, rdAll A w P xs l → rdAll A w' P xs l
 | [], _, h => h
 | _ :: _, _, ⟨c, r, e, h1, h2⟩ => ⟨c, r, e, A.keep h1 hk, rdAll_keep hk h2⟩
theorem rdAll_weaken {α : Type} {A : Rep α} {w : World} {P P' : Nat → Prop} (hk : ∀ b, P b → b < w.heap.size → P' b) : ∀ {l : List α} {xs : List Value}, rdAll A w P xs l → rdAll A w P' xs l
 | [], _, h => h
 | _ :: _, _, ⟨c, r, e, h1, h2⟩ => ⟨c, r, e, A.weaken h1 hk, rdAll_weaken hk h2⟩
theorem rdAll_append {α : Type} {A : Rep α} {w : World} {P : Nat → Prop} : ∀ {l m : List α} {xs ys : List Value}, rdAll A w P xs l → rdAll A w P ys m → rdAll A w P (xs ++ ys) (l ++ m)
 | [], _, _, _, h, k => by rw [show _ = [] from h]; exact k
 | _ :: _, _, _, _, ⟨c, r, e, h1, h2⟩, k => ⟨c, r ++ _, by rw [e, List.append_assoc], h1, rdAll_append h2 k⟩
theorem rdAll_one_elem {α : Type} {A : Rep α} {w : World} {P : Nat → Prop} {c : List Value} {x : α} (h : A.rd w P c x) : rdAll A w P c [x] := ⟨c, [], by simp, h, rfl⟩
theorem rdAll_get {α : Type} {A : Rep α} {w : World} {P : Nat → Prop} : ∀ {l : List α} {xs : List Value}, rdAll A w P xs l → ∀ (j : Nat) (h : j < l.length),
 ∃ cj, A.rd w P cj l[j] ∧ ∀ (k : Nat) (v : Value), cj[k]? = some v → xs[j * A.size + k]? = some v
 | _ :: l, _, ⟨c, r, e, h1, h2⟩, 0, _ => ⟨c, h1, fun k v hv => by
     have hk := (List.getElem?_eq_some_iff.1 hv).1
     rw [e, Nat.zero_mul, Nat.zero_add, List.getElem?_append_left hk]; exact hv⟩
 | _ :: l, _, ⟨c, r, e, h1, h2⟩, j + 1, h => by
   obtain ⟨cj, g1, g2⟩ := rdAll_get h2 j (by simpa using h)
   have e1 := A.len h1
   refine ⟨cj, by simpa using g1, fun k v hv => ?_⟩
   have e2 : (j + 1) * A.size + k = c.length + (j * A.size + k) := by rw [e1, Nat.add_mul]; omega
   rw [e, e2, List.getElem?_append_right (by omega), Nat.add_sub_cancel_left]
   exact g2 k v hv
theorem rd_owned {α : Type} {A : Rep α} {hs : 0 < A.size} {w : World} {P : Nat → Prop} {base e n : Nat} {v : Value} {xs : List Value} {l : List α}
 (ho : w.ownsRow base e A.size v n xs) (hr : rdAll A w P xs l) (hn : n = l.length) (hb : n * A.bytes ≤ 140737488351232) (hP : ∀ b, v.ownBlock = some b → P b) :
 ∃ a c, v = .slice a n c ∧ (rList A hs).rd w P [.slice a n c] l := by
 subst hn
 rcases ho.2 with ⟨rfl, e0⟩ | ⟨g, cap, cur, rfl, h1, h2, h3, h4, h5, h6⟩
 · exact ⟨none, 0, by rw [e0], none, _, 0, rfl, rfl, by omega, fun _ => rfl, hb, fun x hx => by cases hx⟩
 · refine ⟨_, cap, rfl, _, _, cap, rfl, rfl, h3, (fun (h : some _ = none) => by cases h), hb, fun x hx j hj => ?_⟩
   simp only [Option.some.injEq] at hx
   subst hx
   refine ⟨hP g rfl, ?_⟩
   obtain ⟨cj, g1, g2⟩ := rdAll_get hr j hj
   exact ⟨cj, g1, fun k u hu => ho.cells (g := g) rfl _ u (g2 k u hu)⟩
structure Kept (S : Nat → Prop) (w w' : World) : Prop where
 os : w'.os = w.os
 tape : w'.tape = w.tape
 output : w'.output = w.output
 size : w.heap.size ≤ w'.heap.size
 block : ∀ k, S k → w'.heap[k]? = w.heap[k]?
theorem Kept.refl (S : Nat → Prop) (w : World) : Kept S w w := ⟨rfl, rfl, rfl, Nat.le_refl _, fun _ _ => rfl⟩
theorem Kept.trans {S : Nat → Prop} {a b c : World} (h : Kept S a b) (k : Kept S b c) : Kept S a c :=
 ⟨k.os.trans h.os, k.tape.trans h.tape, k.output.trans h.output, Nat.le_trans h.size k.size, fun i hi => (k.block i hi).trans (h.block i hi)⟩
theorem Kept.mono {S S' : Nat → Prop} {w w' : World} (h : Kept S w w') (hS : ∀ b, S' b → S b) : Kept S' w w' := ⟨h.os, h.tape, h.output, h.size, fun k hk => h.block k (hS k hk)⟩
theorem Kept.below {B : Nat} {w w' : World} (h : Below B w w') : Kept (· < B) w w' := ⟨h.os, h.tape, h.output, h.size, h.block⟩
theorem Kept.toBelow {B : Nat} {w w' : World} (h : Kept (· < B) w w') : Below B w w' := ⟨h.os, h.tape, h.output, h.size, h.block⟩
theorem Kept.setCell {S : Nat → Prop} {a w : World} (h : Kept S a w) {p : Addr} (hp : ¬ S p.block) (u : Value) : Kept S a (w.setCell p u) :=
 h.trans ⟨rfl, rfl, rfl, by simp [World.setCell], fun k hk => Below.heap_setCell _ _ _ _ (fun e => hp (e ▸ hk))⟩
theorem Kept.drew {S : Nat → Prop} {a w : World} (h : Kept S a w) : Kept S a w.drew := ⟨h.os, h.tape, h.output, h.size, h.block⟩
theorem Kept.grown {S : Nat → Prop} {a w w' : World} {row : Option Nat} (h : Kept S a w) (hg : w.grownBy w' row) (hS : ∀ b, S b → b < w.heap.size) (hr : ∀ k, row = some k → ¬ S k) : Kept S a w' :=
 h.trans ⟨hg.os, hg.tape, hg.output, hg.size, fun k hk => hg.block k (hS k hk) (fun e => hr k e.symm hk)⟩
theorem Kept.on {S : Nat → Prop} {a w w' : World} (h : Kept S a w) (hS : ∀ b, S b → b < w.heap.size) (k : Below w.heap.size w w') : Kept S a w' :=
 h.trans ⟨k.os, k.tape, k.output, k.size, fun b hb => k.block b (hS b hb)⟩
theorem Kept.cell {S : Nat → Prop} {w w' : World} (h : Kept S w w') {p : Addr} {v : Value} (hp : S p.block) (hc : w.cell? p = some v) : w'.cell? p = some v := by
 rw [World.cell?_of_block (w := w) (h.block p.block hp)]; exact hc
theorem Rep.kept {α : Type} {A : Rep α} {S : Nat → Prop} {w w' : World} {P : Nat → Prop} {cs : List Value} {x : α} (h : A.rd w P cs x) (k : Kept S w w') (hS : ∀ b, P b → b < w.heap.size → S b) : A.rd w' P cs x :=
 A.keep h fun b hb hl => k.block b (hS b hb hl)
theorem Rep.below {α : Type} {A : Rep α} {w w' : World} {P : Nat → Prop} {cs : List Value} {x : α} (h : A.rd w P cs x) (k : Below w.heap.size w w') : A.rd w' P cs x :=
 A.keep h fun b _ hl => k.block b hl
end Go.Proofs.YtkbmadoaomoojaaGreat
namespace Go.Proofs.YtkbmadoaomoojaaGreat.Oct
def octs : Nat → Nat → List UInt8
 | _, 0 => []
 | n, s + 1 => UInt8.ofNat n :: octs (n / 256) s
def num : List UInt8 → Nat
 | [] => 0
 | b :: l => b.toNat + 256 * num l
theorem octs_length (n s : Nat) : (octs n s).length = s := by
 induction s generalizing n with
 | zero => rfl
 | succ s ih => simp [octs, ih]
theorem octs_get (n s i : Nat) (h : i < (octs n s).length) : (octs n s)[i] = UInt8.ofNat (n / 256 ^ i) := by
 induction s generalizing n i with
 | zero => simp [octs] at h
 | succ s ih =>
   cases i with
   | zero => simp [octs]
   | succ i =>
     simp only [octs, List.getElem_cons_succ]
     rw [ih]
     rw [Nat.div_div_eq_div_mul, Nat.pow_succ, Nat.mul_comm]
theorem octs_get_toNat (n s i : Nat) (h : i < (octs n s).length) : ((octs n s)[i].toNat : Int) = ((n / 256 ^ i % 256 : Nat) : Int) := by
 rw [octs_get]; simp
theorem num_octs (n s : Nat) (h : n < 256 ^ s) : num (octs n s) = n := by
 induction s generalizing n with
 | zero => simp at h; subst h; rfl
 | succ s ih =>
   have h1 : n / 256 < 256 ^ s := by
    rw [Nat.div_lt_iff_lt_mul (by decide)]; rw [Nat.pow_succ] at h; exact h
   simp only [octs, num]
   rw [ih _ h1]
   simp
   omega
theorem num_lt (l : List UInt8) : num l < 256 ^ l.length := by
 induction l with
 | nil => simp [num]
 | cons b l ih =>
   have hb : b.toNat < 256 := by have := b.toNat_lt; simpa using this
   simp only [num, List.length_cons, Nat.pow_succ]
   omega
theorem octs_num (l : List UInt8) : octs (num l) l.length = l := by
 induction l with
 | nil => rfl
 | cons b l ih =>
   have hb : b.toNat < 256 := by have := b.toNat_lt; simpa using this
   simp only [num, List.length_cons, octs]
   have h1 : (b.toNat + 256 * num l) / 256 = num l := by omega
   rw [h1, ih]
   congr 1
   apply UInt8.toNat_inj.1
   simp
theorem set_step {α : Type} (M : List α) (z : α) (s k : Nat) (hM : M.length = s) (hk : k < s) :
 (M.take k ++ List.replicate (s - k) z).set k (M[k]'(by omega)) = M.take (k + 1) ++ List.replicate (s - (k + 1)) z := by
 apply List.ext_getElem
 · simp; omega
 · intro i h1 h2
   simp only [List.getElem_set, List.getElem_append, List.getElem_take, List.getElem_replicate, List.length_take]
   by_cases hi : k = i
   · subst hi; simp; omega
   · simp only [if_neg hi]
     by_cases h3 : i < k
     · rw [dif_pos (by omega), dif_pos (by omega)]
     · rw [dif_neg (by omega), dif_neg (by omega)]
def cut (l : List UInt8) (p k : Nat) : List UInt8 := (l.drop p).take k
theorem cut_length (l : List UInt8) (p k : Nat) (h : p + k ≤ l.length) : (cut l p k).length = k := by simp [cut]; omega
theorem cut_cons (l : List UInt8) (p k : Nat) (h : p < l.length) : cut l p (k + 1) = l[p] :: cut l (p + 1) k := by
 unfold cut; rw [List.drop_eq_getElem_cons h, List.take_succ_cons]
theorem num_cut_step (l : List UInt8) (p k : Nat) (h : p < l.length) : num (cut l p (k + 1)) = 256 * num (cut l (p + 1) k) + l[p].toNat := by
 rw [cut_cons l p k h, num]; omega
theorem num_cut_lt (l : List UInt8) (p k : Nat) (h : p + k ≤ l.length) : num (cut l p k) < 256 ^ k := by
 have := num_lt (cut l p k); rwa [cut_length l p k h] at this
theorem or_add (N b : Nat) (hb : b < 256) : N * 256 ||| b = 256 * N + b := by
 have h := Nat.shiftLeft_add_eq_or_of_lt (i := 8) (b := b) (by simpa using hb) N
 rw [Nat.shiftLeft_eq] at h
 rw [← h]
 simp [Nat.mul_comm]
end Go.Proofs.YtkbmadoaomoojaaGreat.Oct
namespace Go.Proofs.YtkbmadoaomoojaaGreat.Crc
def step (c : Nat) : Nat := if c % 2 = 1 then (c / 2) ^^^ 2197175160 else c / 2
def steps : Nat → Nat → Nat
 | 0, c => c
 | k + 1, c => steps k (step c)
def run (c : Nat) (l : List UInt8) : Nat := l.foldl (fun c b => steps 8 (c ^^^ b.toNat)) c
theorem run_nil (c : Nat) : run c [] = c := by unfold run; rw [List.foldl_nil]
theorem run_cons (c : Nat) (b : UInt8) (l : List UInt8) : run c (b :: l) = run (steps 8 (c ^^^ b.toNat)) l := by unfold run; rw [List.foldl_cons]
theorem xor_half (a b : Nat) : (a ^^^ b) / 2 = (a / 2) ^^^ (b / 2) := by
 have := Nat.shiftRight_xor_distrib (a := a) (b := b) (i := 1)
 simpa [Nat.shiftRight_eq_div_pow] using this
theorem xor_odd (a b : Nat) : (a ^^^ b) % 2 = (a + b) % 2 := by
 have h := Nat.xor_mod_two_pow (a := a) (b := b) (n := 1)
 rw [Nat.pow_one] at h
 rw [h]
 rcases Nat.mod_two_eq_zero_or_one a with ha | ha <;> rcases Nat.mod_two_eq_zero_or_one b with hb | hb <;> rw [ha, hb] <;> simp <;> omega
theorem step_xor (a b : Nat) : step (a ^^^ b) = step a ^^^ step b := by
 unfold step
 rw [xor_odd, xor_half]
 by_cases ha : a % 2 = 1 <;> by_cases hb : b % 2 = 1
 · rw [if_neg (by omega), if_pos ha, if_pos hb]
   rw [Nat.xor_assoc, Nat.xor_comm 2197175160, Nat.xor_assoc, Nat.xor_self, Nat.xor_zero]
 · rw [if_pos (by omega), if_pos ha, if_neg hb]
   rw [Nat.xor_assoc, Nat.xor_assoc, Nat.xor_comm (b / 2)]
 · rw [if_pos (by omega), if_neg ha, if_pos hb, Nat.xor_assoc]
 · rw [if_neg (by omega), if_neg ha, if_neg hb]
theorem steps_xor (k a b : Nat) : steps k (a ^^^ b) = steps k a ^^^ steps k b := by
 induction k generalizing a b with
 | zero => rfl
 | succ k ih => simp only [steps, step_xor, ih]
theorem steps_add (j k c : Nat) : steps (j + k) c = steps k (steps j c) := by
 induction j generalizing c with
 | zero => simp [steps]
 | succ j ih => rw [Nat.succ_add]; simp only [steps, ih]
theorem step_lt {c : Nat} (h : c < 4294967296) : step c < 4294967296 := by
 unfold step
 by_cases hc : c % 2 = 1
 · rw [if_pos hc]
   exact Nat.xor_lt_two_pow (n := 32) (by omega) (by decide)
 · rw [if_neg hc]; omega
theorem steps_lt {c : Nat} (k : Nat) (h : c < 4294967296) : steps k c < 4294967296 := by
 induction k generalizing c with
 | zero => exact h
 | succ k ih => exact ih (step_lt h)
theorem xor_lt {a b : Nat} (ha : a < 4294967296) (hb : b < 4294967296) : a ^^^ b < 4294967296 := Nat.xor_lt_two_pow (n := 32) ha hb
theorem toNat_lt32 (b : UInt8) : b.toNat < 4294967296 := by have := b.toNat_lt; omega
theorem run_lt {c : Nat} (l : List UInt8) (h : c < 4294967296) : run c l < 4294967296 := by
 induction l generalizing c with
 | nil => rw [run_nil]; exact h
 | cons b l ih => rw [run_cons]; exact ih (steps_lt 8 (xor_lt h (toNat_lt32 b)))
theorem run_append (c : Nat) (l m : List UInt8) : run c (l ++ m) = run (run c l) m := by
 induction l generalizing c with
 | nil => rw [List.nil_append, run_nil]
 | cons b l ih => rw [List.cons_append, run_cons, run_cons, ih]
theorem split_low (x : Nat) : x = (decide (x % 2 = 1)).toNat ^^^ (2 * (x / 2)) := by
 rcases Nat.mod_two_eq_zero_or_one x with h | h
 · simp [h]; omega
 · have e : (2 * (x / 2)) ^^^ 1 = 2 * (x / 2) + 1 := by
    have h1 := xor_half (2 * (x / 2)) 1
    have h2 := xor_odd (2 * (x / 2)) 1
    simp at h1
    omega
   simp [h]
   rw [Nat.xor_comm, e]
   omega
theorem step_double (x : Nat) : step (2 * x) = x := by unfold step; rw [if_neg (by omega)]; omega
def sum (l : List UInt8) : Nat := 4294967295 - run 4294967295 l
def more (c : Nat) (l : List UInt8) : Nat := 4294967295 - run (4294967295 - c) l
theorem sum_lt (l : List UInt8) : sum l < 4294967296 := by unfold sum; omega
theorem flip_xor {x : Nat} (h : x < 4294967296) : 4294967295 - x = x ^^^ 4294967295 := by
 apply Nat.eq_of_testBit_eq
 intro i
 have e1 := Nat.testBit_two_pow_sub_succ (n := 32) (x := x) (by simpa using h) i
 have e2 := Nat.testBit_two_pow_sub_one 32 i
 rw [show 2 ^ 32 - (x + 1) = 4294967295 - x from by omega] at e1
 rw [show 2 ^ 32 - 1 = 4294967295 from by decide] at e2
 rw [Nat.testBit_xor, e1, e2]
 by_cases hi : i < 32
 · simp [hi]
 · have : x.testBit i = false := Nat.testBit_lt_two_pow (Nat.lt_of_lt_of_le (show x < 2 ^ 32 by simpa using h) (Nat.pow_le_pow_right (by decide) (by omega)))
   simp [hi, this]
def le4 (c : Nat) : List UInt8 := [UInt8.ofNat c, UInt8.ofNat (c / 256), UInt8.ofNat (c / 65536), UInt8.ofNat (c / 16777216)]
theorem steps_split (k c : Nat) : steps k c = (c / 2 ^ k) ^^^ steps k (c % 2 ^ k) := by
 induction k generalizing c with
 | zero => simp [steps, Nat.mod_one]
 | succ k ih =>
   simp only [steps]
   have e := split_low c
   have e1 : step c = step (decide (c % 2 = 1)).toNat ^^^ (c / 2) := by
    have h := congrArg step e
    rw [step_xor, step_double] at h
    exact h
   have e4 : (c % 2 ^ (k + 1)) / 2 = (c / 2) % 2 ^ k := by rw [Nat.pow_succ, Nat.mul_comm, Nat.mod_mul_right_div_self]
   have e5 : (c % 2 ^ (k + 1)) % 2 = c % 2 := by rw [Nat.pow_succ, Nat.mul_comm]; exact Nat.mod_mul_right_mod c 2 (2 ^ k)
   have f := split_low (c % 2 ^ (k + 1))
   rw [e4, e5] at f
   have e2 : step (c % 2 ^ (k + 1)) = step (decide (c % 2 = 1)).toNat ^^^ ((c / 2) % 2 ^ k) := by
    have h := congrArg step f
    rw [step_xor, step_double] at h
    exact h
   rw [e1, e2, steps_xor, steps_xor, ih (c / 2), ← Nat.xor_assoc, ← Nat.xor_assoc]
   rw [Nat.xor_comm (steps k _), Nat.div_div_eq_div_mul, Nat.pow_succ, Nat.mul_comm 2]
end Go.Proofs.YtkbmadoaomoojaaGreat.Crc
namespace Go.Proofs.YtkbmadoaomoojaaGreat.Crc
def sealed (l : List UInt8) : List UInt8 := l ++ le4 (sum l)
def openE (l : List UInt8) : Int := if l.length < 4 then 8 else if sealed (l.take (l.length - 4)) = l then 0 else 21
def openL (l : List UInt8) : List UInt8 := if openE l = 0 then l.take (l.length - 4) else []
theorem sealed_length (l : List UInt8) : (sealed l).length = l.length + 4 := by simp [sealed, le4]
theorem openE_cases (l : List UInt8) : (l.length < 4 ∧ openE l = 8 ∧ openL l = []) ∨ (4 ≤ l.length ∧ sealed (l.take (l.length - 4)) = l ∧ openE l = 0 ∧ openL l = l.take (l.length - 4)) ∨
 (4 ≤ l.length ∧ sealed (l.take (l.length - 4)) ≠ l ∧ openE l = 21 ∧ openL l = []) := by
 by_cases h : l.length < 4
 · have : openE l = 8 := by simp [openE, h]
   exact .inl ⟨h, this, by simp [openL, this]⟩
 · by_cases g : sealed (l.take (l.length - 4)) = l
   · have : openE l = 0 := by simp only [openE, if_neg h, if_pos g]
     exact .inr (.inl ⟨by omega, g, this, by simp [openL, this]⟩)
   · have : openE l = 21 := by simp only [openE, if_neg h, if_neg g]
     exact .inr (.inr ⟨by omega, g, this, by simp [openL, this]⟩)
theorem take_sealed (l : List UInt8) : (sealed l).take ((sealed l).length - 4) = l := by
 rw [sealed_length, Nat.add_sub_cancel]
 simp [sealed]
theorem open_sealed (l : List UInt8) : openE (sealed l) = 0 ∧ openL (sealed l) = l := by
 have h := take_sealed l
 have hl := sealed_length l
 rcases openE_cases (sealed l) with ⟨g, _⟩ | ⟨_, _, e1, e2⟩ | ⟨_, g, _⟩
 · omega
 · exact ⟨e1, by rw [e2, h]⟩
 · rw [h] at g; exact absurd rfl g
def turned (s : List UInt8) (p T : Nat) : Nat → List UInt8
 | 0 => s
 | k + 1 => let u := turned s p T k
            if T.testBit k then u.set ((p + k) / 8) (u.getD ((p + k) / 8) 0 ^^^ UInt8.ofNat (2 ^ ((p + k) % 8))) else u
theorem getD_set (l : List UInt8) (i j : Nat) (x : UInt8) (h : i < l.length) : (l.set i x).getD j 0 = if i = j then x else l.getD j 0 := by
 simp only [List.getD, List.getElem?_set]
 by_cases e : i = j
 · subst e; simp [h]
 · simp [e]
end Go.Proofs.YtkbmadoaomoojaaGreat.Crc
namespace Go.Proofs.YtkbmadoaomoojaaGreat
set_option maxRecDepth 20000
set_option linter.unusedVariables false
abbrev Itm := UInt64 × UInt64
abbrev Nod := List Itm × List Int
def rItm : Rep Itm := rPair rU64 rU64
def rItms : Rep (List Itm) := rList rItm (by decide)
def rKids : Rep (List Int) := rList rInt (by decide)
namespace Lf
open Oct Crc
def rise : List Itm → Bool
 | x :: y :: l => decide (x.1.toNat < y.1.toNat) && rise (y :: l)
 | _ => true
def apart : List Int → Bool
 | [] => true
 | k :: l => decide (k ∉ l) && apart l
def isLeaf (n : Nod) : Bool := n.2.isEmpty
def ok (n : Nod) : Bool :=
 decide (1 ≤ n.1.length) && decide (n.1.length ≤ 3) && (isLeaf n || decide (n.2.length = n.1.length + 1)) && rise n.1 && (isLeaf n || n.1.all (fun x => decide (x.2 = 0))) && n.2.all (fun k => decide (1 ≤ k) && decide (k ≤ 2048)) && apart n.2
def key8 (x : Itm) : List UInt8 := octs x.1.toNat 8
def val8 (x : Itm) : List UInt8 := octs x.2.toNat 8
def kid4 (k : Int) : List UInt8 := octs k.toNat 4
def kind (n : Nod) : UInt8 := if isLeaf n then 1 else 2
def head (n : Nod) : List UInt8 := [kind n, UInt8.ofNat n.1.length, 0, 0]
def rest (n : Nod) : List UInt8 := if isLeaf n then n.1.flatMap val8 else n.2.flatMap kid4
def front (n : Nod) : List UInt8 := head n ++ n.1.flatMap key8 ++ rest n
def body (n : Nod) : List UInt8 := front n ++ List.replicate (60 - (front n).length) 0
def enc (n : Nod) : List UInt8 := sealed (body n)
def encodeE (n : Nod) : Int := if ok n then 0 else 9
def encodeL (n : Nod) : List UInt8 := if ok n then enc n else []
def many (b : List UInt8) : Nat := min (b.getD 1 0).toNat 3
def keyAt (b : List UInt8) (i : Nat) : UInt64 := UInt64.ofNat (num (cut b (4 + 8 * i) 8))
def valAt (b : List UInt8) (i : Nat) : UInt64 := if b.getD 0 0 = 1 then UInt64.ofNat (num (cut b (4 + 8 * many b + 8 * i) 8)) else 0
def kidAt (b : List UInt8) (i : Nat) : Int := (num (cut b (4 + 8 * many b + 4 * i) 4) : Nat)
def told (b : List UInt8) : Nod := ((List.range (many b)).map (fun i => (keyAt b i, valAt b i)), if b.getD 0 0 = 2 then (List.range (many b + 1)).map (kidAt b) else [])
def decodeE (b : List UInt8) : Int :=
 if b.length = 64 then (if openE b = 0 then (if (openL b).getD 0 0 = 1 ∨ (openL b).getD 0 0 = 2 then (if ok (told (openL b)) = true ∧ enc (told (openL b)) = b then 0 else 21) else 22) else 21) else 8
def decodeN (b : List UInt8) : Nod := if decodeE b = 0 then told (openL b) else ([], [])
def way (n : Nod) (key : UInt64) : Nat := (n.1.filter fun x => decide (x.1.toNat ≤ key.toNat)).length
structure Ok (n : Nod) : Prop where
 some_ : 1 ≤ n.1.length
 few : n.1.length ≤ 3
 kids : isLeaf n = true ∨ n.2.length = n.1.length + 1
 rises : rise n.1 = true
 bare : isLeaf n = true ∨ ∀ x ∈ n.1, x.2 = 0
 pages : ∀ k ∈ n.2, 1 ≤ k ∧ k ≤ 2048
 apart_ : apart n.2 = true
theorem ok_iff {n : Nod} : ok n = true ↔ Ok n := by
 unfold ok
 simp only [Bool.and_eq_true, Bool.or_eq_true, decide_eq_true_eq, List.all_eq_true]
 constructor
 · rintro ⟨⟨⟨⟨⟨⟨h1, h2⟩, h3⟩, h4⟩, h5⟩, h6⟩, h7⟩
   exact ⟨h1, h2, h3, h4, h5, h6, h7⟩
 · rintro ⟨h1, h2, h3, h4, h5, h6, h7⟩
   exact ⟨⟨⟨⟨⟨⟨h1, h2⟩, h3⟩, h4⟩, h5⟩, h6⟩, h7⟩
theorem flat_len {α : Type} {f : α → List UInt8} {w : Nat} (hf : ∀ x, (f x).length = w) : ∀ l : List α, (l.flatMap f).length = w * l.length
 | [] => by simp
 | x :: l => by rw [List.flatMap_cons, List.length_append, hf, flat_len hf l, List.length_cons, Nat.mul_succ, Nat.add_comm]
theorem flat_cut {α : Type} {f : α → List UInt8} {w : Nat} (hf : ∀ x, (f x).length = w) : ∀ (l : List α) (i : Nat) (h : i < l.length), cut (l.flatMap f) (w * i) w = f l[i]
 | x :: l, 0, _ => by
   unfold cut
   rw [Nat.mul_zero, List.drop_zero, List.flatMap_cons, List.take_append_of_le_length (by rw [hf]; exact Nat.le_refl _), List.take_of_length_le (by rw [hf]; exact Nat.le_refl _)]
   rfl
 | x :: l, i + 1, h => by
   have ih := flat_cut hf l i (by simpa using h)
   unfold cut at ih ⊢
   rw [List.flatMap_cons, Nat.mul_succ, Nat.add_comm, ← List.drop_drop, List.drop_left' (hf x), ih]
   rfl
theorem cut_mid (A B C : List UInt8) (p q : Nat) (h : p + q ≤ B.length) : cut (A ++ B ++ C) (A.length + p) q = cut B p q := by
 unfold cut
 rw [List.append_assoc, ← List.drop_drop, List.drop_left' rfl, List.drop_append_of_le_length (by omega), List.take_append_of_le_length (by rw [List.length_drop]; omega)]
theorem key8_len (x : Itm) : (key8 x).length = 8 := octs_length _ _
theorem val8_len (x : Itm) : (val8 x).length = 8 := octs_length _ _
theorem kid4_len (k : Int) : (kid4 k).length = 4 := octs_length _ _
theorem u64_back (x : UInt64) : UInt64.ofNat (num (octs x.toNat 8)) = x := by
 rw [num_octs _ _ (by have := x.toNat_lt; simpa using this)]
 exact UInt64.ofNat_toNat
theorem kid_back {k : Int} (h0 : 1 ≤ k) (h1 : k ≤ 2048) : ((num (octs k.toNat 4) : Nat) : Int) = k := by
 rw [num_octs _ _ (by have : k.toNat ≤ 2048 := by omega
                      have : (256 : Nat) ^ 4 = 4294967296 := by decide
                      omega)]
 omega
theorem rest_len {n : Nod} (h : Ok n) : (rest n).length = if isLeaf n then 8 * n.1.length else 4 * (n.1.length + 1) := by
 unfold rest
 by_cases hl : isLeaf n = true
 · rw [if_pos hl, if_pos hl, flat_len val8_len]
 · rw [if_neg hl, if_neg hl, flat_len kid4_len, h.kids.resolve_left hl]
theorem front_len {n : Nod} (h : Ok n) : (front n).length ≤ 60 := by
 have h1 := rest_len h
 have h2 := h.few
 unfold front
 rw [List.length_append, List.length_append, flat_len key8_len, h1]
 show 4 + _ + _ ≤ 60
 split <;> omega
theorem body_len {n : Nod} (h : Ok n) : (body n).length = 60 := by
 have := front_len h
 unfold body
 rw [List.length_append, List.length_replicate]
 omega
theorem enc_len {n : Nod} (h : Ok n) : (enc n).length = 64 := by rw [enc, sealed_length, body_len h]
theorem body_head (n : Nod) : (body n).getD 0 0 = kind n ∧ (body n).getD 1 0 = UInt8.ofNat n.1.length := ⟨rfl, rfl⟩
theorem many_body {n : Nod} (h : Ok n) : many (body n) = n.1.length := by
 have h2 := h.few
 unfold many
 rw [(body_head n).2]
 have : (UInt8.ofNat n.1.length).toNat = n.1.length := by rw [UInt8.toNat_ofNat']; omega
 rw [this]
 omega
theorem body_keys (n : Nod) : body n = head n ++ n.1.flatMap key8 ++ (rest n ++ List.replicate (60 - (front n).length) 0) := by
 unfold body front
 simp only [List.append_assoc]
theorem body_rest (n : Nod) : body n = (head n ++ n.1.flatMap key8) ++ rest n ++ List.replicate (60 - (front n).length) 0 := by
 unfold body front
 simp only [List.append_assoc]
theorem told_body {n : Nod} (h : Ok n) : told (body n) = n := by
 have hm := many_body h
 have hk := (body_head n).1
 have hfew := h.few
 have hhead : (head n).length = 4 := rfl
 have key : ∀ i (hi : i < n.1.length), keyAt (body n) i = n.1[i].1 := fun i hi => by
  unfold keyAt
  have e := cut_mid (head n) (n.1.flatMap key8) (rest n ++ List.replicate (60 - (front n).length) 0) (8 * i) 8 (by rw [flat_len key8_len]; omega)
  rw [hhead, ← body_keys] at e
  rw [e, flat_cut key8_len n.1 i hi]
  exact u64_back _
 have hk4 : (head n ++ n.1.flatMap key8).length = 4 + 8 * n.1.length := by rw [List.length_append, hhead, flat_len key8_len]
 refine Prod.ext ?_ ?_
 · refine List.ext_getElem (by simp [told, hm]) (fun i h1 h2 => ?_)
   have hi : i < n.1.length := h2
   simp only [told, List.getElem_map, List.getElem_range]
   refine Prod.ext (key i hi) ?_
   show valAt (body n) i = n.1[i].2
   unfold valAt
   rw [hk, hm]
   by_cases hl : isLeaf n = true
   · rw [if_pos (show kind n = 1 from if_pos hl)]
     have e := cut_mid (head n ++ n.1.flatMap key8) (rest n) (List.replicate (60 - (front n).length) 0) (8 * i) 8 (by rw [rest_len h, if_pos hl]; omega)
     rw [hk4, ← body_rest] at e
     rw [e, show rest n = n.1.flatMap val8 from if_pos hl, flat_cut val8_len n.1 i hi]
     exact u64_back _
   · rw [if_neg (show ¬ kind n = 1 by unfold kind; rw [if_neg hl]; decide)]
     exact ((h.bare.resolve_left hl) _ (List.getElem_mem hi)).symm
 · show (if (body n).getD 0 0 = 2 then _ else _) = n.2
   rw [hk]
   by_cases hl : isLeaf n = true
   · rw [if_neg (show ¬ kind n = 2 by unfold kind; rw [if_pos hl]; decide)]
     unfold isLeaf at hl
     exact (List.isEmpty_iff.1 hl).symm
   · rw [if_pos (show kind n = 2 from if_neg hl), hm]
     have hkl := h.kids.resolve_left hl
     refine List.ext_getElem (by simp [hkl]) (fun i h1 h2 => ?_)
     have hi : i < n.2.length := h2
     simp only [List.getElem_map, List.getElem_range]
     unfold kidAt
     have e := cut_mid (head n ++ n.1.flatMap key8) (rest n) (List.replicate (60 - (front n).length) 0) (4 * i) 4 (by rw [rest_len h, if_neg hl]; omega)
     rw [hk4, ← body_rest] at e
     rw [hm, e, show rest n = n.2.flatMap kid4 from if_neg hl, flat_cut kid4_len n.2 i hi]
     have := h.pages _ (List.getElem_mem hi)
     exact kid_back this.1 this.2
theorem decode_enc {n : Nod} (h : ok n = true) : decodeE (enc n) = 0 ∧ decodeN (enc n) = n := by
 have hO := ok_iff.1 h
 obtain ⟨o1, o2⟩ := open_sealed (body n)
 have e : decodeE (enc n) = 0 := by
  unfold decodeE
  rw [if_pos (enc_len hO), show enc n = sealed (body n) from rfl, if_pos o1, o2, (body_head n).1, told_body hO, if_pos (show kind n = 1 ∨ kind n = 2 by unfold kind; split <;> simp), if_pos ⟨h, rfl⟩]
 refine ⟨e, ?_⟩
 unfold decodeN
 rw [if_pos e, show enc n = sealed (body n) from rfl, o2, told_body hO]
theorem decodeE_zero {b : List UInt8} (h : decodeE b = 0) : b.length = 64 ∧ openE b = 0 ∧ ok (told (openL b)) = true ∧ enc (told (openL b)) = b := by
 unfold decodeE at h
 by_cases h1 : b.length = 64
 · rw [if_pos h1] at h
   by_cases h2 : openE b = 0
   · rw [if_pos h2] at h
     by_cases h3 : (openL b).getD 0 0 = 1 ∨ (openL b).getD 0 0 = 2
     · rw [if_pos h3] at h
       by_cases h4 : ok (told (openL b)) = true ∧ enc (told (openL b)) = b
       · exact ⟨h1, h2, h4.1, h4.2⟩
       · rw [if_neg h4] at h; cases h
     · rw [if_neg h3] at h; cases h
   · rw [if_neg h2] at h; cases h
 · rw [if_neg h1] at h; cases h
theorem enc_decode {b : List UInt8} (h : decodeE b = 0) : ok (decodeN b) = true ∧ enc (decodeN b) = b := by
 obtain ⟨-, -, h3, h4⟩ := decodeE_zero h
 have e : decodeN b = told (openL b) := if_pos h
 rw [e]
 exact ⟨h3, h4⟩
theorem decode_length {b : List UInt8} (h : b.length ≠ 64) : decodeE b = 8 ∧ decodeN b = ([], []) := by
 have e : decodeE b = 8 := if_neg h
 exact ⟨e, by unfold decodeN; rw [e]; rfl⟩
theorem decode_refused {b : List UInt8} (h1 : b.length = 64) (h : openE b ≠ 0) : decodeE b = 21 ∧ decodeN b = ([], []) := by
 have e : decodeE b = 21 := by unfold decodeE; rw [if_pos h1, if_neg h]
 exact ⟨e, by unfold decodeN; rw [e]; rfl⟩
theorem way_splits : ∀ {l : List Itm}, rise l = true → ∀ (k : UInt64), (l.filter fun x => decide (x.1.toNat ≤ k.toNat)).length ≤ l.length ∧
 (∀ i (h : i < l.length), i < (l.filter fun x => decide (x.1.toNat ≤ k.toNat)).length ↔ l[i].1.toNat ≤ k.toNat)
 | [], _, k => ⟨by simp, fun i h => by simp at h⟩
 | [x], _, k => by
   by_cases c : x.1.toNat ≤ k.toNat
   · have e : ([x].filter fun x => decide (x.1.toNat ≤ k.toNat)) = [x] := by simp [c]
     rw [e]
     exact ⟨Nat.le_refl _, fun i h => by obtain rfl : i = 0 := by simpa using h
                                         exact ⟨fun _ => c, fun _ => by simp⟩⟩
   · have e : ([x].filter fun x => decide (x.1.toNat ≤ k.toNat)) = [] := by simp [c]
     rw [e]
     exact ⟨by simp, fun i h => by obtain rfl : i = 0 := by simpa using h
                                   exact ⟨fun h => by simp at h, fun h => absurd h c⟩⟩
 | x :: y :: l, h, k => by
   have h' := h
   simp only [rise, Bool.and_eq_true, decide_eq_true_eq] at h'
   obtain ⟨i1, i2⟩ := way_splits h'.2 k
   by_cases c : x.1.toNat ≤ k.toNat
   · have e : ((x :: y :: l).filter fun x => decide (x.1.toNat ≤ k.toNat)) = x :: ((y :: l).filter fun x => decide (x.1.toNat ≤ k.toNat)) := by rw [List.filter_cons_of_pos (by simpa using c)]
     rw [e, List.length_cons]
     refine ⟨by have : (x :: y :: l).length = (y :: l).length + 1 := rfl; omega, fun i hi => ?_⟩
     cases i with
     | zero => exact ⟨fun _ => c, fun _ => by omega⟩
     | succ i =>
       have := i2 i (by simpa using hi)
       rw [List.getElem_cons_succ, ← this]
       omega
   · have hy : ¬ y.1.toNat ≤ k.toNat := by omega
     have e0 : ((y :: l).filter fun x => decide (x.1.toNat ≤ k.toNat)).length = 0 := by
      cases hz : ((y :: l).filter fun x => decide (x.1.toNat ≤ k.toNat)).length with
      | zero => rfl
      | succ m => exact absurd ((i2 0 (by simp)).1 (by rw [hz]; omega)) hy
     have e : ((x :: y :: l).filter fun x => decide (x.1.toNat ≤ k.toNat)) = ((y :: l).filter fun x => decide (x.1.toNat ≤ k.toNat)) := by rw [List.filter_cons_of_neg (by simpa using c)]
     rw [e, e0]
     refine ⟨Nat.zero_le _, fun i hi => ⟨fun h => by omega, fun hle => ?_⟩⟩
     cases i with
     | zero => exact absurd hle c
     | succ i =>
       have := (i2 i (by simpa using hi)).2 (by simpa using hle)
       omega
end Lf
end Go.Proofs.YtkbmadoaomoojaaGreat
