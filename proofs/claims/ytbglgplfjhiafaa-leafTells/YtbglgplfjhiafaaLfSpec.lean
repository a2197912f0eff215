/-
  Plain functions: nodes of a tree, their pages, and what the calls of leaf answer. It imports no program. Conditions: those that each lemma names.
-/
import Derived.Test.YtbglgplfjhiafaaRep
import Derived.Test.YtbglgplfjhiafaaPlain
import Derived.Test.YtbglgplfjhiafaaSpec2c
namespace Go.Proofs.Ytbglgplfjhiafaa
set_option linter.unusedVariables false

abbrev Itm := UInt64 × UInt64
abbrev Nod := List Itm × List Int

def rItm : Rep Itm := rPair rU64 rU64
def rItms : Rep (List Itm) := rList rItm (by decide)
def rKids : Rep (List Int) := rList rInt (by decide)
def rNod : Rep Nod := rPair rItms rKids

namespace Lf
open Oct Crc

/-- Keys rise. -/
def rise : List Itm → Bool
  | x :: y :: l => decide (x.1.toNat < y.1.toNat) && rise (y :: l)
  | _ => true

/-- No two kids are alike. -/
def apart : List Int → Bool
  | [] => true
  | k :: l => decide (k ∉ l) && apart l

def isLeaf (n : Nod) : Bool := n.2.isEmpty
def ok (n : Nod) : Bool :=
  decide (1 ≤ n.1.length) && decide (n.1.length ≤ 3) && (isLeaf n || decide (n.2.length = n.1.length + 1)) && rise n.1 && (isLeaf n || n.1.all (fun x => decide (x.2 = 0))) && n.2.all (fun k => decide (1 ≤ k) && decide (k ≤ 2048)) && apart n.2

def key8 (x : Itm) : List UInt8 := octs x.1.toNat 8
def val8 (x : Itm) : List UInt8 := octs x.2.toNat 8
def kid4 (k : Int) : List UInt8 := octs k.toNat 4

def kind (n : Nod) : UInt8 := if isLeaf n then 1 else 2
def head (n : Nod) : List UInt8 := [kind n, UInt8.ofNat n.1.length, 0, 0]
def rest (n : Nod) : List UInt8 := if isLeaf n then n.1.flatMap val8 else n.2.flatMap kid4
def front (n : Nod) : List UInt8 := head n ++ n.1.flatMap key8 ++ rest n
def body (n : Nod) : List UInt8 := front n ++ List.replicate (60 - (front n).length) 0
def enc (n : Nod) : List UInt8 := sealed (body n)

def encodeE (n : Nod) : Int := if ok n then 0 else 9
def encodeL (n : Nod) : List UInt8 := if ok n then enc n else []

/-- How many items octets tell. -/
def many (b : List UInt8) : Nat := min (b.getD 1 0).toNat 3
def keyAt (b : List UInt8) (i : Nat) : UInt64 := UInt64.ofNat (num (cut b (4 + 8 * i) 8))
def valAt (b : List UInt8) (i : Nat) : UInt64 := if b.getD 0 0 = 1 then UInt64.ofNat (num (cut b (4 + 8 * many b + 8 * i) 8)) else 0
def kidAt (b : List UInt8) (i : Nat) : Int := (num (cut b (4 + 8 * many b + 4 * i) 4) : Nat)
def told (b : List UInt8) : Nod := ((List.range (many b)).map (fun i => (keyAt b i, valAt b i)), if b.getD 0 0 = 2 then (List.range (many b + 1)).map (kidAt b) else [])

def decodeE (b : List UInt8) : Int :=
  if b.length = 64 then (if openE b = 0 then (if (openL b).getD 0 0 = 1 ∨ (openL b).getD 0 0 = 2 then (if ok (told (openL b)) = true ∧ enc (told (openL b)) = b then 0 else 21) else 22) else 21) else 8
def decodeN (b : List UInt8) : Nod := if decodeE b = 0 then told (openL b) else ([], [])

def way (n : Nod) (key : UInt64) : Nat := (n.1.filter fun x => decide (x.1.toNat ≤ key.toNat)).length

structure Ok (n : Nod) : Prop where
  some_ : 1 ≤ n.1.length
  few : n.1.length ≤ 3
  kids : isLeaf n = true ∨ n.2.length = n.1.length + 1
  rises : rise n.1 = true
  bare : isLeaf n = true ∨ ∀ x ∈ n.1, x.2 = 0
  pages : ∀ k ∈ n.2, 1 ≤ k ∧ k ≤ 2048
  apart_ : apart n.2 = true

theorem ok_iff {n : Nod} : ok n = true ↔ Ok n := by
  unfold ok
  simp only [Bool.and_eq_true, Bool.or_eq_true, decide_eq_true_eq, List.all_eq_true]
  constructor
  · rintro ⟨⟨⟨⟨⟨⟨h1, h2⟩, h3⟩, h4⟩, h5⟩, h6⟩, h7⟩
    exact ⟨h1, h2, h3, h4, h5, h6, h7⟩
  · rintro ⟨h1, h2, h3, h4, h5, h6, h7⟩
    exact ⟨⟨⟨⟨⟨⟨h1, h2⟩, h3⟩, h4⟩, h5⟩, h6⟩, h7⟩

theorem flat_len {α : Type} {f : α → List UInt8} {w : Nat} (hf : ∀ x, (f x).length = w) : ∀ l : List α, (l.flatMap f).length = w * l.length
  | [] => by simp
  | x :: l => by rw [List.flatMap_cons, List.length_append, hf, flat_len hf l, List.length_cons, Nat.mul_succ, Nat.add_comm]

/-- The i-th of parts that are all of one length. -/
theorem flat_cut {α : Type} {f : α → List UInt8} {w : Nat} (hf : ∀ x, (f x).length = w) : ∀ (l : List α) (i : Nat) (h : i < l.length), cut (l.flatMap f) (w * i) w = f l[i]
  | x :: l, 0, _ => by
    unfold cut
    rw [Nat.mul_zero, List.drop_zero, List.flatMap_cons, List.take_append_of_le_length (by rw [hf]; exact Nat.le_refl _), List.take_of_length_le (by rw [hf]; exact Nat.le_refl _)]
    rfl
  | x :: l, i + 1, h => by
    have ih := flat_cut hf l i (by simpa using h)
    unfold cut at ih ⊢
    rw [List.flatMap_cons, Nat.mul_succ, Nat.add_comm, ← List.drop_drop, List.drop_left' (hf x), ih]
    rfl

theorem cut_mid (A B C : List UInt8) (p q : Nat) (h : p + q ≤ B.length) : cut (A ++ B ++ C) (A.length + p) q = cut B p q := by
  unfold cut
  rw [List.append_assoc, ← List.drop_drop, List.drop_left' rfl, List.drop_append_of_le_length (by omega), List.take_append_of_le_length (by rw [List.length_drop]; omega)]

theorem key8_len (x : Itm) : (key8 x).length = 8 := octs_length _ _
theorem val8_len (x : Itm) : (val8 x).length = 8 := octs_length _ _
theorem kid4_len (k : Int) : (kid4 k).length = 4 := octs_length _ _

theorem u64_back (x : UInt64) : UInt64.ofNat (num (octs x.toNat 8)) = x := by
  rw [num_octs _ _ (by have := x.toNat_lt; simpa using this)]
  exact UInt64.ofNat_toNat

theorem kid_back {k : Int} (h0 : 1 ≤ k) (h1 : k ≤ 2048) : ((num (octs k.toNat 4) : Nat) : Int) = k := by
  rw [num_octs _ _ (by have : k.toNat ≤ 2048 := by omega
                       have : (256 : Nat) ^ 4 = 4294967296 := by decide
                       omega)]
  omega

theorem rest_len {n : Nod} (h : Ok n) : (rest n).length = if isLeaf n then 8 * n.1.length else 4 * (n.1.length + 1) := by
  unfold rest
  by_cases hl : isLeaf n = true
  · rw [if_pos hl, if_pos hl, flat_len val8_len]
  · rw [if_neg hl, if_neg hl, flat_len kid4_len, h.kids.resolve_left hl]

theorem front_len {n : Nod} (h : Ok n) : (front n).length ≤ 60 := by
  have h1 := rest_len h
  have h2 := h.few
  unfold front
  rw [List.length_append, List.length_append, flat_len key8_len, h1]
  show 4 + _ + _ ≤ 60
  split <;> omega

theorem body_len {n : Nod} (h : Ok n) : (body n).length = 60 := by
  have := front_len h
  unfold body
  rw [List.length_append, List.length_replicate]
  omega

theorem enc_len {n : Nod} (h : Ok n) : (enc n).length = 64 := by rw [enc, sealed_length, body_len h]

theorem body_head (n : Nod) : (body n).getD 0 0 = kind n ∧ (body n).getD 1 0 = UInt8.ofNat n.1.length := ⟨rfl, rfl⟩

theorem many_body {n : Nod} (h : Ok n) : many (body n) = n.1.length := by
  have h2 := h.few
  unfold many
  rw [(body_head n).2]
  have : (UInt8.ofNat n.1.length).toNat = n.1.length := by rw [UInt8.toNat_ofNat']; omega
  rw [this]
  omega

theorem body_keys (n : Nod) : body n = head n ++ n.1.flatMap key8 ++ (rest n ++ List.replicate (60 - (front n).length) 0) := by
  unfold body front
  simp only [List.append_assoc]

theorem body_rest (n : Nod) : body n = (head n ++ n.1.flatMap key8) ++ rest n ++ List.replicate (60 - (front n).length) 0 := by
  unfold body front
  simp only [List.append_assoc]

theorem told_body {n : Nod} (h : Ok n) : told (body n) = n := by
  have hm := many_body h
  have hk := (body_head n).1
  have hfew := h.few
  have hhead : (head n).length = 4 := rfl
  have key : ∀ i (hi : i < n.1.length), keyAt (body n) i = n.1[i].1 := fun i hi => by
    unfold keyAt
    have e := cut_mid (head n) (n.1.flatMap key8) (rest n ++ List.replicate (60 - (front n).length) 0) (8 * i) 8 (by rw [flat_len key8_len]; omega)
    rw [hhead, ← body_keys] at e
    rw [e, flat_cut key8_len n.1 i hi]
    exact u64_back _
  have hk4 : (head n ++ n.1.flatMap key8).length = 4 + 8 * n.1.length := by rw [List.length_append, hhead, flat_len key8_len]
  refine Prod.ext ?_ ?_
  · refine List.ext_getElem (by simp [told, hm]) (fun i h1 h2 => ?_)
    have hi : i < n.1.length := h2
    simp only [told, List.getElem_map, List.getElem_range]
    refine Prod.ext (key i hi) ?_
    show valAt (body n) i = n.1[i].2
    unfold valAt
    rw [hk, hm]
    by_cases hl : isLeaf n = true
    · rw [if_pos (show kind n = 1 from if_pos hl)]
      have e := cut_mid (head n ++ n.1.flatMap key8) (rest n) (List.replicate (60 - (front n).length) 0) (8 * i) 8 (by rw [rest_len h, if_pos hl]; omega)
      rw [hk4, ← body_rest] at e
      rw [e, show rest n = n.1.flatMap val8 from if_pos hl, flat_cut val8_len n.1 i hi]
      exact u64_back _
    · rw [if_neg (show ¬ kind n = 1 by unfold kind; rw [if_neg hl]; decide)]
      exact ((h.bare.resolve_left hl) _ (List.getElem_mem hi)).symm
  · show (if (body n).getD 0 0 = 2 then _ else _) = n.2
    rw [hk]
    by_cases hl : isLeaf n = true
    · rw [if_neg (show ¬ kind n = 2 by unfold kind; rw [if_pos hl]; decide)]
      unfold isLeaf at hl
      exact (List.isEmpty_iff.1 hl).symm
    · rw [if_pos (show kind n = 2 from if_neg hl), hm]
      have hkl := h.kids.resolve_left hl
      refine List.ext_getElem (by simp [hkl]) (fun i h1 h2 => ?_)
      have hi : i < n.2.length := h2
      simp only [List.getElem_map, List.getElem_range]
      unfold kidAt
      have e := cut_mid (head n ++ n.1.flatMap key8) (rest n) (List.replicate (60 - (front n).length) 0) (4 * i) 4 (by rw [rest_len h, if_neg hl]; omega)
      rw [hk4, ← body_rest] at e
      rw [hm, e, show rest n = n.2.flatMap kid4 from if_neg hl, flat_cut kid4_len n.2 i hi]
      have := h.pages _ (List.getElem_mem hi)
      exact kid_back this.1 this.2

theorem decode_enc {n : Nod} (h : ok n = true) : decodeE (enc n) = 0 ∧ decodeN (enc n) = n := by
  have hO := ok_iff.1 h
  obtain ⟨o1, o2⟩ := open_sealed (body n)
  have e : decodeE (enc n) = 0 := by
    unfold decodeE
    rw [if_pos (enc_len hO), show enc n = sealed (body n) from rfl, if_pos o1, o2, (body_head n).1, told_body hO, if_pos (show kind n = 1 ∨ kind n = 2 by unfold kind; split <;> simp), if_pos ⟨h, rfl⟩]
  refine ⟨e, ?_⟩
  unfold decodeN
  rw [if_pos e, show enc n = sealed (body n) from rfl, o2, told_body hO]

theorem decodeE_zero {b : List UInt8} (h : decodeE b = 0) : b.length = 64 ∧ openE b = 0 ∧ ok (told (openL b)) = true ∧ enc (told (openL b)) = b := by
  unfold decodeE at h
  by_cases h1 : b.length = 64
  · rw [if_pos h1] at h
    by_cases h2 : openE b = 0
    · rw [if_pos h2] at h
      by_cases h3 : (openL b).getD 0 0 = 1 ∨ (openL b).getD 0 0 = 2
      · rw [if_pos h3] at h
        by_cases h4 : ok (told (openL b)) = true ∧ enc (told (openL b)) = b
        · exact ⟨h1, h2, h4.1, h4.2⟩
        · rw [if_neg h4] at h; cases h
      · rw [if_neg h3] at h; cases h
    · rw [if_neg h2] at h; cases h
  · rw [if_neg h1] at h; cases h

theorem enc_decode {b : List UInt8} (h : decodeE b = 0) : ok (decodeN b) = true ∧ enc (decodeN b) = b := by
  obtain ⟨-, -, h3, h4⟩ := decodeE_zero h
  have e : decodeN b = told (openL b) := if_pos h
  rw [e]
  exact ⟨h3, h4⟩

theorem decode_length {b : List UInt8} (h : b.length ≠ 64) : decodeE b = 8 ∧ decodeN b = ([], []) := by
  have e : decodeE b = 8 := if_neg h
  exact ⟨e, by unfold decodeN; rw [e]; rfl⟩

theorem decode_refused {b : List UInt8} (h1 : b.length = 64) (h : openE b ≠ 0) : decodeE b = 21 ∧ decodeN b = ([], []) := by
  have e : decodeE b = 21 := by unfold decodeE; rw [if_pos h1, if_neg h]
  exact ⟨e, by unfold decodeN; rw [e]; rfl⟩

theorem enc_inj {a b : Nod} (ha : ok a = true) (hb : ok b = true) : enc a = enc b ↔ a = b :=
  ⟨fun e => by rw [← (decode_enc ha).2, e, (decode_enc hb).2], fun e => by rw [e]⟩

theorem run_one (D : List UInt8) (i : Nat) (t : UInt8) (ht : t ≠ 0) (hi : i < D.length) (h4 : 4 ≤ D.length) (hD : ∀ j, D.getD j 0 = if j = i then t else 0) : run 0 D ≠ 0 := by
  have ht0 : t.toNat ≠ 0 := fun h => ht (UInt8.toNat_inj.1 (by simpa using h))
  have hlt : t.toNat < 256 := by have := t.toNat_lt; simpa using this
  obtain ⟨q, hq⟩ : ∃ q, q = min i (D.length - 4) := ⟨_, rfl⟩
  have hk : i - q ≤ 3 := by omega
  have hk2 : q ≤ i := by omega
  have hpow : 2 ^ (8 * (i - q)) ≤ 16777216 := by
    have : 2 ^ (8 * (i - q)) ≤ 2 ^ 24 := Nat.pow_le_pow_right (by decide) (by omega)
    simpa using this
  have hpos : 0 < 2 ^ (8 * (i - q)) := Nat.pow_pos (by decide)
  refine burst_run D (8 * q) (t.toNat * 2 ^ (8 * (i - q))) ?_ ?_ (by omega) ?_
  · calc t.toNat * 2 ^ (8 * (i - q)) ≤ 255 * 16777216 := Nat.mul_le_mul (by omega) hpow
      _ < 4294967296 := by decide
  · exact Nat.mul_ne_zero ht0 (by omega)
  · intro b hb
    rw [hD, Nat.testBit_mul_two_pow]
    by_cases e : b / 8 = i
    · rw [if_pos e]
      have c1 : decide (8 * q ≤ b ∧ b < 8 * q + 32) = true := decide_eq_true (by omega)
      have c2 : decide (8 * (i - q) ≤ b - 8 * q) = true := decide_eq_true (by omega)
      have c3 : b - 8 * q - 8 * (i - q) = b % 8 := by omega
      simp only [c1, c2, c3, Bool.true_and]
    · rw [if_neg e]
      have z : (0 : UInt8).toNat.testBit (b % 8) = false := by simp
      rw [z]
      by_cases c1 : 8 * q ≤ b ∧ b < 8 * q + 32
      · by_cases c2 : 8 * (i - q) ≤ b - 8 * q
        · have c3 : 8 ≤ b - 8 * q - 8 * (i - q) := by omega
          have c4 : t.toNat.testBit (b - 8 * q - 8 * (i - q)) = false := Nat.testBit_lt_two_pow (Nat.lt_of_lt_of_le hlt (by
            have : 2 ^ 8 ≤ 2 ^ (b - 8 * q - 8 * (i - q)) := Nat.pow_le_pow_right (by decide) c3
            simpa using this))
          simp [c4]
        · simp [c2]
      · simp [c1]

/-- A page of which one octet is another. -/
theorem decode_turned {s : Nod} (h : ok s = true) (i : Nat) (hi : i < 64) (t : UInt8) (ht : t ≠ 0) :
    decodeE ((enc s).set i ((enc s).getD i 0 ^^^ t)) = 21 ∧ decodeN ((enc s).set i ((enc s).getD i 0 ^^^ t)) = ([], []) := by
  have hl := enc_len (ok_iff.1 h)
  have hs : ((enc s).set i ((enc s).getD i 0 ^^^ t)).length = (sealed (body s)).length := by rw [List.length_set]; rfl
  have hne : run 0 (xorL (sealed (body s)) ((enc s).set i ((enc s).getD i 0 ^^^ t))) ≠ 0 := by
    have hlen : (xorL (enc s) ((enc s).set i ((enc s).getD i 0 ^^^ t))).length = 64 := by simp [xorL, hl]
    refine run_one _ i t ht (by rw [show sealed (body s) = enc s from rfl, hlen]; exact hi) (by rw [show sealed (body s) = enc s from rfl, hlen]; decide) (fun j => ?_)
    rw [show sealed (body s) = enc s from rfl, xorL_getD _ _ (by rw [List.length_set]), getD_set _ _ _ _ (by omega)]
    by_cases e : i = j
    · subst e
      rw [if_pos rfl, if_pos rfl, ← UInt8.xor_assoc, UInt8.xor_self, UInt8.zero_xor]
    · rw [if_neg e, if_neg (fun h => e h.symm), UInt8.xor_self]
  exact decode_refused (by rw [List.length_set, hl]) (by rw [(open_turned (body s) _ hs hne).1]; decide)

theorem rise_get : ∀ {l : List Itm}, rise l = true → ∀ i (h : i + 1 < l.length), l[i].1.toNat < l[i + 1].1.toNat
  | x :: y :: l, h, 0, _ => by
    simp only [rise, Bool.and_eq_true, decide_eq_true_eq] at h
    exact h.1
  | x :: y :: l, h, i + 1, hi => by
    simp only [rise, Bool.and_eq_true, decide_eq_true_eq] at h
    exact rise_get h.2 i (by simpa using hi)

/-- A key leads behind all items that are at most it, and ahead of all others. -/
theorem way_splits : ∀ {l : List Itm}, rise l = true → ∀ (k : UInt64), (l.filter fun x => decide (x.1.toNat ≤ k.toNat)).length ≤ l.length ∧
    (∀ i (h : i < l.length), i < (l.filter fun x => decide (x.1.toNat ≤ k.toNat)).length ↔ l[i].1.toNat ≤ k.toNat)
  | [], _, k => ⟨by simp, fun i h => by simp at h⟩
  | [x], _, k => by
    by_cases c : x.1.toNat ≤ k.toNat
    · have e : ([x].filter fun x => decide (x.1.toNat ≤ k.toNat)) = [x] := by simp [c]
      rw [e]
      exact ⟨Nat.le_refl _, fun i h => by obtain rfl : i = 0 := by simpa using h
                                          exact ⟨fun _ => c, fun _ => by simp⟩⟩
    · have e : ([x].filter fun x => decide (x.1.toNat ≤ k.toNat)) = [] := by simp [c]
      rw [e]
      exact ⟨by simp, fun i h => by obtain rfl : i = 0 := by simpa using h
                                    exact ⟨fun h => by simp at h, fun h => absurd h c⟩⟩
  | x :: y :: l, h, k => by
    have h' := h
    simp only [rise, Bool.and_eq_true, decide_eq_true_eq] at h'
    obtain ⟨i1, i2⟩ := way_splits h'.2 k
    by_cases c : x.1.toNat ≤ k.toNat
    · have e : ((x :: y :: l).filter fun x => decide (x.1.toNat ≤ k.toNat)) = x :: ((y :: l).filter fun x => decide (x.1.toNat ≤ k.toNat)) := by rw [List.filter_cons_of_pos (by simpa using c)]
      rw [e, List.length_cons]
      refine ⟨by have : (x :: y :: l).length = (y :: l).length + 1 := rfl; omega, fun i hi => ?_⟩
      cases i with
      | zero => exact ⟨fun _ => c, fun _ => by omega⟩
      | succ i =>
        have := i2 i (by simpa using hi)
        rw [List.getElem_cons_succ, ← this]
        omega
    · have hy : ¬ y.1.toNat ≤ k.toNat := by omega
      have e0 : ((y :: l).filter fun x => decide (x.1.toNat ≤ k.toNat)).length = 0 := by
        cases hz : ((y :: l).filter fun x => decide (x.1.toNat ≤ k.toNat)).length with
        | zero => rfl
        | succ m => exact absurd ((i2 0 (by simp)).1 (by rw [hz]; omega)) hy
      have e : ((x :: y :: l).filter fun x => decide (x.1.toNat ≤ k.toNat)) = ((y :: l).filter fun x => decide (x.1.toNat ≤ k.toNat)) := by rw [List.filter_cons_of_neg (by simpa using c)]
      rw [e, e0]
      refine ⟨Nat.zero_le _, fun i hi => ⟨fun h => by omega, fun hle => ?_⟩⟩
      cases i with
      | zero => exact absurd hle c
      | succ i =>
        have := (i2 i (by simpa using hi)).2 (by simpa using hle)
        omega

end Lf
end Go.Proofs.Ytbglgplfjhiafaa
