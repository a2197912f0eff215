/-
  Plain functions: superblocks, their sectors, and what the calls of super answer. It imports no program. Conditions: those that each lemma names.
-/
import Derived.Test.YtbglgplfjhiafaaRep
import Derived.Test.YtbglgplfjhiafaaBack2
import Derived.Test.YtbglgplfjhiafaaSpec2c
namespace Go.Proofs.Ytbglgplfjhiafaa

abbrev Super := Int × Int × Int × Int × Int × Int × Int

def rSuper : Rep Super := rPair rInt (rPair rInt (rPair rInt (rPair rInt (rPair rInt (rPair rInt rInt)))))

namespace Sup
open Oct Crc

def within (n lo hi : Int) : Bool := decide (lo ≤ n) && decide (n ≤ hi)
def ok (s : Super) : Bool :=
  within s.1 0 1099511627776 && within s.2.1 0 65536 && within s.2.2.1 1 1024 && within s.2.2.2.1 1 2048 && within s.2.2.2.2.1 0 65536 && within s.2.2.2.2.2.1 0 1099511627776 && within s.2.2.2.2.2.2 0 s.2.2.2.1
def checkE (s : Super) : Int := if ok s then 0 else 4

def widths : List Int := [8, 4, 4, 4, 4, 8, 4]
def vals (s : Super) : List Nat := [s.1.toNat, s.2.1.toNat, s.2.2.1.toNat, s.2.2.2.1.toNat, s.2.2.2.2.1.toNat, s.2.2.2.2.2.1.toNat, s.2.2.2.2.2.2.toNat]
def head : List UInt8 := [102, 115, 116, 49]
def body (s : Super) : List UInt8 := head ++ packL widths (vals s) ++ List.replicate 20 0
def enc (s : Super) : List UInt8 := sealed (body s)
def encodeL (s : Super) : List UInt8 := if ok s then enc s else []

def zero : Super := (0, 0, 0, 0, 0, 0, 0)
def lo (n : Nat) : Int := ((min n 4611686018427387904 : Nat) : Int)
def ofNums (l : List Nat) : Super := (lo (l.getD 0 0), lo (l.getD 1 0), lo (l.getD 2 0), lo (l.getD 3 0), lo (l.getD 4 0), lo (l.getD 5 0), lo (l.getD 6 0))
def inner (b : List UInt8) : List UInt8 := ((openL b).drop 4).take 36
def read (b : List UInt8) : Super := ofNums (unpackL widths (inner b))
def isHead (b : List UInt8) : Bool := (openL b).take 4 == head
def isBare (b : List UInt8) : Bool := ((openL b).drop 40).all (· == 0)
def decodeE (b : List UInt8) : Int := if b.length = 64 then (if openE b = 0 ∧ isHead b = true ∧ isBare b = true then (if ok (read b) then 0 else 4) else 21) else 8
def decodeS (b : List UInt8) : Super := if decodeE b = 0 then read b else zero

def newestE (a b : List UInt8) : Int := if decodeE a ≠ 0 ∧ decodeE b ≠ 0 then 21 else 0
def second (a b : List UInt8) : Bool := decide (decodeE a ≠ 0) || (decide (decodeE b = 0) && decide ((decodeS a).1 < (decodeS b).1))
def newestS (a b : List UInt8) : Super := if newestE a b = 0 then (if second a b then decodeS b else decodeS a) else zero
def newestN (a b : List UInt8) : Int := if newestE a b = 0 then (if second a b then 1 else 0) else 0

theorem ok_iff {s : Super} : ok s = true ↔ (0 ≤ s.1 ∧ s.1 ≤ 1099511627776) ∧ (0 ≤ s.2.1 ∧ s.2.1 ≤ 65536) ∧ (1 ≤ s.2.2.1 ∧ s.2.2.1 ≤ 1024) ∧ (1 ≤ s.2.2.2.1 ∧ s.2.2.2.1 ≤ 2048) ∧ (0 ≤ s.2.2.2.2.1 ∧ s.2.2.2.2.1 ≤ 65536) ∧ (0 ≤ s.2.2.2.2.2.1 ∧ s.2.2.2.2.2.1 ≤ 1099511627776) ∧ (0 ≤ s.2.2.2.2.2.2 ∧ s.2.2.2.2.2.2 ≤ s.2.2.2.1) := by
  simp only [ok, within, Bool.and_eq_true, decide_eq_true_eq, and_assoc]

theorem allOk_widths : allOk widths = true := by decide
theorem total_widths : total widths = 36 := by decide

theorem pack_ok {s : Super} (h : ok s = true) : packE widths (vals s) = 0 := by
  obtain ⟨⟨a1, a2⟩, ⟨b1, b2⟩, ⟨c1, c2⟩, ⟨d1, d2⟩, ⟨e1, e2⟩, ⟨f1, f2⟩, g1, g2⟩ := ok_iff.1 h
  have put : ∀ (n : Nat) (w : Int), 1 ≤ w → w ≤ 8 → n < 256 ^ w.toNat → putE n w = 0 := by
    intro n w h1 h2 h3
    simp [putE, sizeOk, h1, h2, h3]
  rw [packE_in rfl (by decide)]
  simp only [widths, vals, List.zip_cons_cons, List.zip_nil_right, pairsE]
  rw [put _ 8 (by decide) (by decide) (by show _ < 256 ^ 8; omega), put s.2.1.toNat 4 (by decide) (by decide) (by show _ < 256 ^ 4; omega), put s.2.2.1.toNat 4 (by decide) (by decide) (by show _ < 256 ^ 4; omega), put s.2.2.2.1.toNat 4 (by decide) (by decide) (by show _ < 256 ^ 4; omega), put s.2.2.2.2.1.toNat 4 (by decide) (by decide) (by show _ < 256 ^ 4; omega), put s.2.2.2.2.2.1.toNat 8 (by decide) (by decide) (by show _ < 256 ^ 8; omega), put s.2.2.2.2.2.2.toNat 4 (by decide) (by decide) (by show _ < 256 ^ 4; omega)]
  simp

theorem pack_length {s : Super} (h : ok s = true) : (packL widths (vals s)).length = 36 := by
  have h1 := unpackE_zero (unpack_pack (pack_ok h)).1
  rw [← h1.2.2.1]
  exact total_widths

theorem body_length {s : Super} (h : ok s = true) : (body s).length = 60 := by simp [body, head, pack_length h]
theorem enc_length {s : Super} (h : ok s = true) : (enc s).length = 64 := by rw [enc, sealed_length, body_length h]

theorem lo_small {n : Int} (h0 : 0 ≤ n) (h : n ≤ 4611686018427387904) : lo n.toNat = n := by unfold lo; omega

theorem of_vals {s : Super} (h : ok s = true) : ofNums (vals s) = s := by
  obtain ⟨⟨a1, a2⟩, ⟨b1, b2⟩, ⟨c1, c2⟩, ⟨d1, d2⟩, ⟨e1, e2⟩, ⟨f1, f2⟩, g1, g2⟩ := ok_iff.1 h
  obtain ⟨a, b, c, d, e, f, g⟩ := s
  simp only at a1 a2 b1 b2 c1 c2 d1 d2 e1 e2 f1 f2 g1 g2
  simp only [ofNums, vals, List.getD_cons_zero, List.getD_cons_succ]
  rw [lo_small a1 (by omega), lo_small b1 (by omega), lo_small (by omega) (by omega), lo_small (by omega) (by omega), lo_small e1 (by omega), lo_small f1 (by omega), lo_small g1 (by omega)]

theorem parts {s : Super} (h : ok s = true) : (body s).take 4 = head ∧ ((body s).drop 4).take 36 = packL widths (vals s) ∧ (body s).drop 40 = List.replicate 20 0 := by
  have h1 := pack_length h
  unfold body
  refine ⟨by simp [head], ?_, ?_⟩
  · rw [List.append_assoc, show (4 : Nat) = head.length from rfl, List.drop_left, List.take_left' h1]
  · rw [List.drop_append_of_le_length (by simp [head, h1]), List.drop_eq_nil_of_le (by simp [head, h1]), List.nil_append]

/-- A superblock comes back from its sector. -/
theorem decode_enc {s : Super} (h : ok s = true) : decodeE (enc s) = 0 ∧ decodeS (enc s) = s := by
  have ho := open_sealed (body s)
  obtain ⟨p1, p2, p3⟩ := parts h
  have hr : read (enc s) = s := by
    unfold read inner enc
    rw [ho.2, p2, (unpack_pack (pack_ok h)).2, of_vals h]
  have hh : isHead (enc s) = true := by unfold isHead enc; rw [ho.2, p1]; exact beq_self_eq_true _
  have hb : isBare (enc s) = true := by unfold isBare enc; rw [ho.2, p3]; decide
  have hE : decodeE (enc s) = 0 := by
    unfold decodeE
    rw [if_pos (enc_length h), if_pos ⟨ho.1, hh, hb⟩, hr, if_pos h]
  exact ⟨hE, by unfold decodeS; rw [if_pos hE, hr]⟩

theorem decodeE_zero {b : List UInt8} (h : decodeE b = 0) : b.length = 64 ∧ openE b = 0 ∧ isHead b = true ∧ isBare b = true ∧ ok (read b) = true := by
  unfold decodeE at h
  split at h
  · rename_i h1
    split at h
    · rename_i h2
      split at h
      · rename_i h3; exact ⟨h1, h2.1, h2.2.1, h2.2.2, h3⟩
      · cases h
    · cases h
  · cases h

theorem lo_back {n : Nat} {m : Int} (h : lo n ≤ m) (hm : m < 4611686018427387904) : (lo n).toNat = n := by unfold lo at h ⊢; omega

/-- What is read is made again of what was read. -/
theorem enc_decode {b : List UInt8} (h : decodeE b = 0) : ok (decodeS b) = true ∧ enc (decodeS b) = b := by
  obtain ⟨h1, h2, h3, h4, h5⟩ := decodeE_zero h
  have hS : decodeS b = read b := by unfold decodeS; rw [if_pos h]
  rw [hS]
  refine ⟨h5, ?_⟩
  rcases openE_cases b with ⟨g, _, _⟩ | ⟨g1, g2, g3, g4⟩ | ⟨_, _, g, _⟩
  · omega
  · have hx : (openL b).length = 60 := by rw [g4, List.length_take]; omega
    have hil : (inner b).length = 36 := by unfold inner; rw [List.length_take, List.length_drop]; omega
    obtain ⟨u1, u2⟩ := unpackE_ok (W := widths) (l := inner b) (by decide) allOk_widths (by rw [hil]; exact total_widths)
    obtain ⟨k1, k2⟩ := pack_unpack u1
    have hv : vals (read b) = unpackL widths (inner b) := by
      have hl : (unpackL widths (inner b)).length = 7 := by rw [u2, nums_length]; rfl
      unfold read at h5 ⊢
      generalize unpackL widths (inner b) = l at hl h5
      match l, hl with
      | [a, b, c, d, e, f, g], _ =>
        obtain ⟨⟨_, a2⟩, ⟨_, b2⟩, ⟨_, c2⟩, ⟨_, d2⟩, ⟨_, e2⟩, ⟨_, f2⟩, _, g2⟩ := ok_iff.1 h5
        simp only [ofNums, List.getD_cons_zero, List.getD_cons_succ] at a2 b2 c2 d2 e2 f2 g2
        simp only [vals, ofNums, List.getD_cons_zero, List.getD_cons_succ]
        rw [lo_back a2 (by omega), lo_back b2 (by omega), lo_back c2 (by omega), lo_back d2 (by omega), lo_back e2 (by omega), lo_back f2 (by omega), lo_back (m := 2048) (by omega) (by omega)]
    have hb : body (read b) = openL b := by
      unfold body
      rw [hv, k2]
      have e1 : (openL b).take 4 = head := by unfold isHead at h3; exact beq_iff_eq.1 h3
      have e2 : (openL b).drop 40 = List.replicate 20 0 := by
        apply List.eq_replicate_iff.2
        refine ⟨by rw [List.length_drop]; omega, fun x hx' => ?_⟩
        unfold isBare at h4
        exact beq_iff_eq.1 (List.all_eq_true.1 h4 x hx')
      rw [← e1, ← e2]
      unfold inner
      have e3 : openL b = (openL b).take 4 ++ (((openL b).drop 4).take 36 ++ ((openL b).drop 4).drop 36) := by rw [List.take_append_drop, List.take_append_drop]
      rw [List.drop_drop] at e3
      rw [List.append_assoc]
      exact e3.symm
    unfold enc
    rw [hb, g4]
    exact g2
  · rw [h2] at g; cases g

theorem decode_length {b : List UInt8} (h : b.length ≠ 64) : decodeE b = 8 ∧ decodeS b = zero := by
  have : decodeE b = 8 := by unfold decodeE; rw [if_neg h]
  exact ⟨this, by unfold decodeS; rw [if_neg (by rw [this]; decide)]⟩

theorem decode_refused {b : List UInt8} (h1 : b.length = 64) (h : openE b ≠ 0) : decodeE b = 21 ∧ decodeS b = zero := by
  have : decodeE b = 21 := by unfold decodeE; rw [if_pos h1, if_neg (fun g => h g.1)]
  exact ⟨this, by unfold decodeS; rw [if_neg (by rw [this]; decide)]⟩

end Sup
end Go.Proofs.Ytbglgplfjhiafaa
