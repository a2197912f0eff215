/-
  Facts that the proof rests on, part 3. Conditions: those that each of them names.
-/
import Derived.ChangeOld
import Derived.OpenShut
import Derived.ProofKit
import Derived.ShutString
import Derived.SizedLaws
import Derived.Test.YtinlgoljaiolnaaRows
import Derived.Test.YtinlgoljaiolnaaBK00
import Derived.Test.YtinlgoljaiolnaaBK01
namespace Go.Proofs.Ytinlgoljaiolnaa
open Go.ChangeShapes Go.WideShapes Go.ChangeAt Go.RowKit
def rMp : Rep Mpr := rPair rInt rExts
def rMps : Rep (List Mpr) := rList rMp (by decide)
def rRfr : Rep Rfr := rPair rInt (rPair rInt (rPair rInt rInt))
def rRfrs : Rep (List Rfr) := rList rRfr (by decide)
theorem own : ownKnob Try.prog.godebug = none := by kernel_rfl
theorem laidOut : laidOutB Try.prog = true := by kernel_rfl
theorem opens_ref9 : Opens Try.prog 64 rRfr :=
  opens_struct Try.underlying64 (by kernel_rfl) (opens_field rfl (by kernel_rfl) (opens_int Try.underlying3) (opens_field rfl (by kernel_rfl) (opens_int Try.underlying3) (opens_field rfl (by kernel_rfl) (opens_int Try.underlying3) (opens_last rfl (by kernel_rfl) (opens_int Try.underlying3)))))
theorem opens_refs9 : Opens Try.prog 31 rRfrs := opens_list Try.underlying31 (by kernel_rfl) (by kernel_rfl) opens_ref9
end Go.Proofs.Ytinlgoljaiolnaa
namespace Go.Proofs.Ytinlgoljaiolnaa.Ex
set_option linter.unusedVariables false
def checkE (l : List Ext) : Int := @ite _ (Ok l) (decOk l) (0) (9)
def lookE (l : List Ext) (v n : Int) : Int := @ite _ (Ok l) (decOk l) ((if Fits v n then 0 else 4)) (9)
def lookL (l : List Ext) (v n : Int) : List Ext := if lookE l v n = 0 then look l v n else []
def putE (l : List Ext) (x : Ext) : Int := @ite _ (Ok l) (decOk l) ((if One x then (if (put l x).length ≤ 1024 then 0 else 51) else 4)) (9)
def putL (l : List Ext) (x : Ext) : List Ext := if putE l x = 0 then put l x else []
theorem Ok.good {l : List Ext} (h : Ok l) : Good l := (good_iff l).1 h.2
theorem ok_of {l : List Ext} (h : Good l) (hn : l.length ≤ 1024) : Ok l := ⟨hn, (good_iff l).2 h⟩
theorem checkE_ok {l : List Ext} (h : Ok l) : checkE l = 0 := if_pos h
theorem checkE_no {l : List Ext} (h : ¬ Ok l) : checkE l = 9 := if_neg h
theorem checkE_zero {l : List Ext} : checkE l = 0 ↔ Ok l := by
  unfold checkE
  by_cases h : Ok l
  · rw [if_pos h]; exact ⟨fun _ => h, fun _ => rfl⟩
  · rw [if_neg h]; exact ⟨fun g => absurd g (by decide), fun g => absurd g h⟩
theorem lookE_zero {l : List Ext} {v n : Int} : lookE l v n = 0 ↔ Ok l ∧ Fits v n := by
  unfold lookE
  by_cases h : Ok l
  · rw [if_pos h]
    by_cases g : Fits v n
    · rw [if_pos g]; exact ⟨fun _ => ⟨h, g⟩, fun _ => rfl⟩
    · rw [if_neg g]; exact ⟨fun k => absurd k (by decide), fun k => absurd k.2 g⟩
  · rw [if_neg h]; exact ⟨fun k => absurd k (by decide), fun k => absurd k.1 h⟩
theorem putE_zero {l : List Ext} {x : Ext} : putE l x = 0 ↔ Ok l ∧ One x ∧ (put l x).length ≤ 1024 := by
  unfold putE
  by_cases h : Ok l
  · rw [if_pos h]
    by_cases g : One x
    · rw [if_pos g]
      by_cases k : (put l x).length ≤ 1024
      · rw [if_pos k]; exact ⟨fun _ => ⟨h, g, k⟩, fun _ => rfl⟩
      · rw [if_neg k]; exact ⟨fun q => absurd q (by decide), fun q => absurd q.2.2 k⟩
    · rw [if_neg g]; exact ⟨fun k => absurd k (by decide), fun k => absurd k.2.1 g⟩
  · rw [if_neg h]; exact ⟨fun k => absurd k (by decide), fun k => absurd k.1 h⟩
theorem putL_ok {l : List Ext} {x : Ext} (h : putE l x = 0) : putL l x = put l x ∧ Ok (putL l x) ∧ ∀ u, get (putL l x) u = if x.1 ≤ u ∧ u < x.1 + x.2.2 then some (x.2.1 + u - x.1) else get l u := by
  have e : putL l x = put l x := if_pos h
  obtain ⟨h1, h2, h3⟩ := putE_zero.1 h
  obtain ⟨w1, w2⟩ := put_ok h1.good h2
  rw [e]
  exact ⟨rfl, ok_of w1 h3, w2⟩
theorem pieces : ∀ {ps : List Ext} {a b : Int}, From a ps → (∀ u, (∃ p, get ps u = some p) ↔ a ≤ u ∧ u < b) → a ≤ b →
    match ps with
    | [] => a = b
    | x :: l => x.1 = a ∧ 1 ≤ x.2.2 ∧ a + x.2.2 ≤ b ∧ get ps a = some (val x a) ∧ get ps (a + x.2.2 - 1) = some (val x (a + x.2.2 - 1)) ∧ From (a + x.2.2) l ∧ (∀ u, (∃ p, get l u = some p) ↔ a + x.2.2 ≤ u ∧ u < b) ∧ ∀ u, a + x.2.2 ≤ u → get ps u = get l u
  | [], a, b, _, h, hab => by
    by_cases c : a = b
    · exact c
    · obtain ⟨p, hp⟩ := (h a).2 ⟨by omega, by omega⟩
      cases hp
  | x :: l, a, b, ⟨h1, h2, h3, h4⟩, h, hab => by
    have hx1 : x.1 = a := by
      by_cases c : x.1 = a
      · exact c
      · have hx : ∃ p, get (x :: l) x.1 = some p := ⟨_, by simp only [get]; rw [if_pos (by omega)]⟩
        have := (h x.1).1 hx
        obtain ⟨p, hp⟩ := (h a).2 ⟨by omega, by omega⟩
        simp only [get] at hp
        rw [if_neg (by omega), get_low h4.loose (by omega)] at hp
        cases hp
    have hend : ∃ p, get (x :: l) (x.1 + x.2.2 - 1) = some p := ⟨_, by simp only [get]; rw [if_pos (by omega)]⟩
    have hb := (h _).1 hend
    have up : ∀ u, a + x.2.2 ≤ u → get (x :: l) u = get l u := fun u hu => by simp only [get]; rw [if_neg (by omega)]
    refine ⟨hx1, h2, by omega, by simp only [get]; rw [if_pos (by omega)], by simp only [get]; rw [if_pos (by omega)], by rw [← hx1]; exact h4, fun u => ?_, up⟩
    constructor
    · rintro ⟨p, hp⟩
      by_cases c : a + x.2.2 ≤ u
      · exact ⟨c, ((h u).1 ⟨p, by rw [up u c]; exact hp⟩).2⟩
      · rw [get_low h4.loose (by omega)] at hp
        cases hp
    · rintro ⟨c1, c2⟩
      obtain ⟨p, hp⟩ := (h u).2 ⟨by omega, c2⟩
      exact ⟨p, by rw [← up u c1]; exact hp⟩
end Go.Proofs.Ytinlgoljaiolnaa.Ex
namespace Go.Proofs.Ytinlgoljaiolnaa
abbrev Act := Int × Int × List UInt8
abbrev Host := List (List UInt8) × List Act × Int
namespace Hst
def isWrite (cap : Int) (a : Act) : Bool := decide (a.1 = 1) && decide (0 ≤ a.2.1) && decide (a.2.1 < cap) && decide (a.2.2.length = 64)
def isLen (cap : Int) (a : Act) : Bool := decide (a.1 = 2) && decide (0 ≤ a.2.1) && decide (a.2.1 ≤ cap) && decide (a.2.2.length = 0)
def actOk (cap : Int) (a : Act) : Bool := isWrite cap a || isLen cap a
def headOk (s : Host) : Bool := decide (1 ≤ s.2.2) && decide (s.2.2 ≤ 65536) && decide ((s.1.length : Int) ≤ s.2.2) && decide (s.2.1.length ≤ 4096)
def ok (s : Host) : Bool := headOk s && s.1.all (fun b => decide (b.length = 64)) && s.2.1.all (actOk s.2.2)
def checkE (s : Host) : Int := if ok s then 0 else 9
def zeros : List UInt8 := List.replicate 64 0
def done (l : List (List UInt8)) (a : Act) : List (List UInt8) :=
  if a.1 = 1 then (if a.2.1 < (l.length : Int) then l.set a.2.1.toNat a.2.2 else l) else l.take a.2.1.toNat ++ List.replicate (a.2.1.toNat - l.length) zeros
def all : Nat → Bool := fun _ => true
def none : Host := ([], [], 0)
end Hst
theorem rList_at {α : Type} {A : Rep α} {hs : 0 < A.size} {w : World} {P : Nat → Prop} {a : Option Addr} {n c : Nat} {l : List α} (h : (rList A hs).rd w P [.slice a n c] l) (hn : 0 < n) :
    ∃ b off, a = some ⟨b, off, none⟩ ∧ P b ∧ b < w.heap.size ∧ ∀ (j : Nat) (hj : j < l.length), ∃ cj, A.rd w P cj l[j] ∧ ∀ (k : Nat) (v : Value), cj[k]? = some v → w.cell? ⟨b, off + (j * A.size + k), none⟩ = some v := by
  obtain ⟨a', n', c', e, h1, h2, h3, h4, h5⟩ := h
  simp only [List.cons.injEq, Value.slice.injEq, and_true] at e
  obtain ⟨rfl, rfl, rfl⟩ := e
  cases a with
  | none => have := h3 rfl; omega
  | some x =>
    have hE := h5 x rfl
    have hb := Elems.block hs hE 0 (by omega)
    obtain ⟨hP, cj, g1, g2⟩ := hE 0 (by omega)
    obtain ⟨b, off, spot⟩ := x
    have h0 := g2 0 _ (List.getElem?_eq_getElem (by rw [A.len g1]; exact hs))
    rw [Nat.zero_mul, Nat.zero_add] at h0
    have hspot : spot = none := by simpa [Addr.add] using World.cell?_spot h0
    subst hspot
    refine ⟨b, off, rfl, hP, hb, fun j hj => ?_⟩
    obtain ⟨_, cj, g1, g2⟩ := hE j hj
    exact ⟨cj, g1, fun k v hv => by rw [← Addr.add_lit]; exact g2 k v hv⟩
end Go.Proofs.Ytinlgoljaiolnaa
