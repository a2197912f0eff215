/-
  Facts that the proof rests on, part 1. Conditions: those that each of them names.
-/
import Derived.Deep.MidRow
import Derived.Maps.AppendAt
import Derived.WalkKit
import Derived.WalkLawsBesides
import Derived.WalkSpells
namespace Go.Proofs.Ytoophkmnppoppaa
open Go.RowKit
set_option linter.unusedVariables false
structure Rep (α : Type) where
 size : Nat
 bytes : Nat
 rd : World → (Nat → Prop) → List Value → α → Prop
 len : ∀ {w : World} {P : Nat → Prop} {cs : List Value} {x : α}, rd w P cs x → cs.length = size
 one : ∀ {w : World} {P : Nat → Prop} {cs : List Value} {x : α}, rd w P cs x → ∀ v ∈ cs, v.oneCell' = true
 keep : ∀ {w w' : World} {P : Nat → Prop} {cs : List Value} {x : α}, rd w P cs x → (∀ b, P b → b < w.heap.size → w'.heap[b]? = w.heap[b]?) → rd w' P cs x
 weaken : ∀ {w : World} {P P' : Nat → Prop} {cs : List Value} {x : α}, rd w P cs x → (∀ b, P b → b < w.heap.size → P' b) → rd w P' cs x
def rInt : Rep Int where
 size := 1
 bytes := 8
 rd _ _ cs x := cs = [.int .i64 x] ∧ -9223372036854775808 ≤ x ∧ x ≤ 9223372036854775807
 len h := by rw [h.1]; rfl
 one h v hv := by rw [h.1] at hv; simp at hv; subst hv; rfl
 keep h _ := h
 weaken h _ := h
def rByte : Rep UInt8 where
 size := 1
 bytes := 1
 rd _ _ cs x := cs = [.int .u8 (x.toNat : Int)]
 len h := by rw [h]; rfl
 one h v hv := by rw [h] at hv; simp at hv; subst hv; rfl
 keep h _ := h
 weaken h _ := h
def q9Z {α β : Type} (A : Rep α) (B : Rep β) : Rep (α × β) where
 size := A.size + B.size
 bytes := A.bytes + B.bytes
 rd w P cs x := ∃ c d, cs = c ++ d ∧ A.rd w P c x.1 ∧ B.rd w P d x.2
 len := by rintro w P cs x ⟨c, d, rfl, h1, h2⟩; rw [List.length_append, A.len h1, B.len h2]
 one := by
  rintro w P cs x ⟨c, d, rfl, h1, h2⟩ v hv
  rcases List.mem_append.1 hv with hv | hv
  · exact A.one h1 v hv
  · exact B.one h2 v hv
 keep := by rintro w w' P cs x ⟨c, d, rfl, h1, h2⟩ hk; exact ⟨c, d, rfl, A.keep h1 hk, B.keep h2 hk⟩
 weaken := by rintro w P P' cs x ⟨c, d, rfl, h1, h2⟩ hk; exact ⟨c, d, rfl, A.weaken h1 hk, B.weaken h2 hk⟩
def Elems {α : Type} (A : Rep α) (w : World) (P : Nat → Prop) (x : Addr) (l : List α) : Prop :=
 ∀ (j : Nat) (h : j < l.length), P x.block ∧ ∃ cj, A.rd w P cj l[j] ∧ ∀ (k : Nat) (v : Value), cj[k]? = some v → w.cell? (x.add (j * A.size + k)) = some v
theorem qGQ (x : Addr) (k : Nat) : (x.add k).block = x.block := by unfold Addr.add; split <;> rfl
theorem Elems.block {α : Type} {A : Rep α} {w : World} {P : Nat → Prop} {x : Addr} {l : List α} (hs : 0 < A.size) (h : Elems A w P x l) (j : Nat) (hj : j < l.length) : x.block < w.heap.size := by
 obtain ⟨_, cj, h1, h2⟩ := h j hj
 have hl := A.len h1
 have := h2 0 _ (List.getElem?_eq_getElem (by omega))
 have hb := World.block_lt_of_cell? w _ this
 rwa [qGQ] at hb
def q6Z {α : Type} (A : Rep α) (hs : 0 < A.size) : Rep (List α) where
 size := 1
 bytes := 24
 rd w P cs l := ∃ a n c, cs = [.slice a n c] ∧ l.length = n ∧ n ≤ c ∧ (a = none → c = 0) ∧ n * A.bytes ≤ 140737488351232 ∧ ∀ x, a = some x → Elems A w P x l
 len := by rintro w P cs x ⟨a, n, c, rfl, _⟩; rfl
 one := by rintro w P cs x ⟨a, n, c, rfl, _⟩ v hv; simp at hv; subst hv; rfl
 keep := by
  rintro w w' P cs l ⟨a, n, c, rfl, h1, h2, h3, h4, h5⟩ hk
  refine ⟨a, n, c, rfl, h1, h2, h3, h4, fun x hx j hj => ?_⟩
  have hb := Elems.block hs (h5 x hx) j hj
  obtain ⟨hp, cj, g1, g2⟩ := h5 x hx j hj
  refine ⟨hp, cj, A.keep g1 hk, fun k v hv => ?_⟩
  have := World.cell?_of_block (w := w) (w' := w') (a := x.add (j * A.size + k)) (by rw [qGQ]; exact hk _ hp hb)
  rw [this]
  exact g2 k v hv
 weaken := by
  rintro w P P' cs l ⟨a, n, c, rfl, h1, h2, h3, h4, h5⟩ hk
  refine ⟨a, n, c, rfl, h1, h2, h3, h4, fun x hx j hj => ?_⟩
  have hb := Elems.block hs (h5 x hx) j hj
  obtain ⟨hp, cj, g1, g2⟩ := h5 x hx j hj
  exact ⟨hk _ hp hb, cj, A.weaken g1 hk, g2⟩
def q5j {α : Type} (A : Rep α) (w : World) (P : Nat → Prop) : List Value → List α → Prop
 | xs, [] => xs = []
 | xs, x :: l => ∃ c r, xs = c ++ r ∧ A.rd w P c x ∧ q5j A w P r l
theorem rdAll_one {α : Type} {A : Rep α} {w : World} {P : Nat → Prop} : ∀ {l : List α} {xs : List Value}, q5j A w P xs l → ∀ v ∈ xs, v.oneCell' = true
 | [], _, h, v, hv => by rw [show _ = [] from h] at hv; cases hv
 | _ :: _, _, ⟨c, r, e, h1, h2⟩, v, hv => by
   rw [e] at hv
   rcases List.mem_append.1 hv with hv | hv
   · exact A.one h1 v hv
   · exact rdAll_one h2 v hv
theorem q3X {α : Type} {A : Rep α} {w w' : World} {P : Nat → Prop} (hk : ∀ b, P b → b < w.heap.size → w'.heap[b]? = w.heap[b]?) : ∀ {l : List α} {xs : List Value}, q5j A w P xs l → q5j A w' P xs l
 | [], _, h => h
 | _ :: _, _, ⟨c, r, e, h1, h2⟩ => ⟨c, r, e, A.keep h1 hk, q3X hk h2⟩
theorem q1j {α : Type} {A : Rep α} {w : World} {P P' : Nat → Prop} (hk : ∀ b, P b → b < w.heap.size → P' b) : ∀ {l : List α} {xs : List Value}, q5j A w P xs l → q5j A w P' xs l
 | [], _, h => h
 | _ :: _, _, ⟨c, r, e, h1, h2⟩ => ⟨c, r, e, A.weaken h1 hk, q1j hk h2⟩
theorem q4X {α : Type} {A : Rep α} {w : World} {P : Nat → Prop} : ∀ {l m : List α} {xs ys : List Value}, q5j A w P xs l → q5j A w P ys m → q5j A w P (xs ++ ys) (l ++ m)
 | [], _, _, _, h, k => by rw [show _ = [] from h]; exact k
 | _ :: _, _, _, _, ⟨c, r, e, h1, h2⟩, k => ⟨c, r ++ _, by rw [e, List.append_assoc], h1, q4X h2 k⟩
theorem q6Q {α : Type} {A : Rep α} {w : World} {P : Nat → Prop} {c : List Value} {x : α} (h : A.rd w P c x) : q5j A w P c [x] := ⟨c, [], by simp, h, rfl⟩
theorem qEJ {α : Type} {A : Rep α} {w : World} {P : Nat → Prop} : ∀ {l : List α} {xs : List Value}, q5j A w P xs l → ∀ (j : Nat) (h : j < l.length),
 ∃ cj, A.rd w P cj l[j] ∧ ∀ (k : Nat) (v : Value), cj[k]? = some v → xs[j * A.size + k]? = some v
 | _ :: l, _, ⟨c, r, e, h1, h2⟩, 0, _ => ⟨c, h1, fun k v hv => by
     have hk := (List.getElem?_eq_some_iff.1 hv).1
     rw [e, Nat.zero_mul, Nat.zero_add, List.getElem?_append_left hk]; exact hv⟩
 | _ :: l, _, ⟨c, r, e, h1, h2⟩, j + 1, h => by
   obtain ⟨cj, g1, g2⟩ := qEJ h2 j (by simpa using h)
   have e1 := A.len h1
   refine ⟨cj, by simpa using g1, fun k v hv => ?_⟩
   have e2 : (j + 1) * A.size + k = c.length + (j * A.size + k) := by rw [e1, Nat.add_mul]; omega
   rw [e, e2, List.getElem?_append_right (by omega), Nat.add_sub_cancel_left]
   exact g2 k v hv
theorem qDZ {α : Type} {A : Rep α} {hs : 0 < A.size} {w : World} {P : Nat → Prop} {base e n : Nat} {v : Value} {xs : List Value} {l : List α}
 (ho : w.ownsRow base e A.size v n xs) (hr : q5j A w P xs l) (hn : n = l.length) (hb : n * A.bytes ≤ 140737488351232) (hP : ∀ b, v.ownBlock = some b → P b) :
 ∃ a c, v = .slice a n c ∧ (q6Z A hs).rd w P [.slice a n c] l := by
 subst hn
 rcases ho.2 with ⟨rfl, e0⟩ | ⟨g, cap, cur, rfl, h1, h2, h3, h4, h5, h6⟩
 · exact ⟨none, 0, by rw [e0], none, _, 0, rfl, rfl, by omega, fun _ => rfl, hb, fun x hx => by cases hx⟩
 · refine ⟨_, cap, rfl, _, _, cap, rfl, rfl, h3, (fun (h : some _ = none) => by cases h), hb, fun x hx j hj => ?_⟩
   simp only [Option.some.injEq] at hx
   subst hx
   refine ⟨hP g rfl, ?_⟩
   obtain ⟨cj, g1, g2⟩ := qEJ hr j hj
   exact ⟨cj, g1, fun k u hu => ho.cells (g := g) rfl _ u (g2 k u hu)⟩
structure Kept (S : Nat → Prop) (w w' : World) : Prop where
 os : w'.os = w.os
 tape : w'.tape = w.tape
 output : w'.output = w.output
 size : w.heap.size ≤ w'.heap.size
 block : ∀ k, S k → w'.heap[k]? = w.heap[k]?
theorem Kept.refl (S : Nat → Prop) (w : World) : Kept S w w := ⟨rfl, rfl, rfl, Nat.le_refl _, fun _ _ => rfl⟩
theorem Kept.trans {S : Nat → Prop} {a b c : World} (h : Kept S a b) (k : Kept S b c) : Kept S a c :=
 ⟨k.os.trans h.os, k.tape.trans h.tape, k.output.trans h.output, Nat.le_trans h.size k.size, fun i hi => (k.block i hi).trans (h.block i hi)⟩
theorem Kept.mono {S S' : Nat → Prop} {w w' : World} (h : Kept S w w') (hS : ∀ b, S' b → S b) : Kept S' w w' := ⟨h.os, h.tape, h.output, h.size, fun k hk => h.block k (hS k hk)⟩
theorem Kept.below {B : Nat} {w w' : World} (h : Below B w w') : Kept (· < B) w w' := ⟨h.os, h.tape, h.output, h.size, h.block⟩
theorem Kept.toBelow {B : Nat} {w w' : World} (h : Kept (· < B) w w') : Below B w w' := ⟨h.os, h.tape, h.output, h.size, h.block⟩
theorem Kept.setCell {S : Nat → Prop} {a w : World} (h : Kept S a w) {p : Addr} (hp : ¬ S p.block) (u : Value) : Kept S a (w.setCell p u) :=
 h.trans ⟨rfl, rfl, rfl, by simp [World.setCell], fun k hk => Below.heap_setCell _ _ _ _ (fun e => hp (e ▸ hk))⟩
theorem Kept.drew {S : Nat → Prop} {a w : World} (h : Kept S a w) : Kept S a w.drew := ⟨h.os, h.tape, h.output, h.size, h.block⟩
theorem Kept.grown {S : Nat → Prop} {a w w' : World} {row : Option Nat} (h : Kept S a w) (hg : w.grownBy w' row) (hS : ∀ b, S b → b < w.heap.size) (hr : ∀ k, row = some k → ¬ S k) : Kept S a w' :=
 h.trans ⟨hg.os, hg.tape, hg.output, hg.size, fun k hk => hg.block k (hS k hk) (fun e => hr k e.symm hk)⟩
theorem Kept.on {S : Nat → Prop} {a w w' : World} (h : Kept S a w) (hS : ∀ b, S b → b < w.heap.size) (k : Below w.heap.size w w') : Kept S a w' :=
 h.trans ⟨k.os, k.tape, k.output, k.size, fun b hb => k.block b (hS b hb)⟩
theorem Kept.cell {S : Nat → Prop} {w w' : World} (h : Kept S w w') {p : Addr} {v : Value} (hp : S p.block) (hc : w.cell? p = some v) : w'.cell? p = some v := by
 rw [World.cell?_of_block (w := w) (h.block p.block hp)]; exact hc
theorem Rep.kept {α : Type} {A : Rep α} {S : Nat → Prop} {w w' : World} {P : Nat → Prop} {cs : List Value} {x : α} (h : A.rd w P cs x) (k : Kept S w w') (hS : ∀ b, P b → b < w.heap.size → S b) : A.rd w' P cs x :=
 A.keep h fun b hb hl => k.block b (hS b hb hl)
theorem Rep.below {α : Type} {A : Rep α} {w w' : World} {P : Nat → Prop} {cs : List Value} {x : α} (h : A.rd w P cs x) (k : Below w.heap.size w w') : A.rd w' P cs x :=
 A.keep h fun b _ hl => k.block b hl
end Go.Proofs.Ytoophkmnppoppaa
namespace Go.Proofs.Ytoophkmnppoppaa
set_option linter.unusedVariables false
abbrev Sec := List UInt8
abbrev Dsk := List Sec
abbrev Snp := Int × ByteArray × Dsk
abbrev Sta := Dsk × List Snp × Int
abbrev Nmd := Int × ByteArray
abbrev Opn := Int × Int × Int × Int × ByteArray × List UInt8
abbrev Rpl := Int × List UInt8 × Int × List Nmd × Int
namespace Mo
def allZ (b : Sec) : Bool := b.all (fun x => decide (x = 0))
def okSec (b : Sec) : Bool := decide (b.length = 0) || (decide (b.length = 64) && !allZ b)
def okDisk (d : Dsk) : Bool := decide (d.length ≤ 65536) && d.all okSec
def okName (n : ByteArray) : Bool := decide (1 ≤ n.size) && decide (n.size ≤ 16)
def okSnaps (next : Int) : Int → List ByteArray → List Snp → Bool
 | _, _, [] => true
 | last, seen, x :: l => okDisk x.2.2 && decide (last < x.1) && decide (x.1 < next) && okName x.2.1 && !(seen.any (fun n => decide (n = x.2.1))) && okSnaps next x.1 (seen ++ [x.2.1]) l
def ok (s : Sta) : Bool := okDisk s.1 && decide (s.2.1.length ≤ 8) && decide (1 ≤ s.2.2) && decide (s.2.2 ≤ 255) && okSnaps s.2.2 0 [] s.2.1
def checkE (s : Sta) : Int := if ok s then 0 else 9
def newE (n : Int) : Int := if 0 ≤ n ∧ n ≤ 65536 then 0 else 4
def newS (n : Int) : Sta := if 0 ≤ n ∧ n ≤ 65536 then (List.replicate n.toNat [], [], 1) else ([], [], 0)
abbrev fits (size at_ n : Int) : Prop := 0 ≤ at_ ∧ 0 ≤ n ∧ n ≤ size ∧ at_ ≤ size - n
def what (x : Opn) : Int := x.1
def at_ (x : Opn) : Int := x.2.1
def num (x : Opn) : Int := x.2.2.1
def idO (x : Opn) : Int := x.2.2.2.1
def name (x : Opn) : ByteArray := x.2.2.2.2.1
def data (x : Opn) : List UInt8 := x.2.2.2.2.2
def writeE (size : Int) (at' : Int) (len : Nat) : Int :=
 if len = 0 ∨ len % 64 ≠ 0 ∨ 64 < len / 64 then 1 else if fits size at' (len / 64 : Nat) then 0 else 4
def touchE (size at' n : Int) : Int := if fits size at' n then (if 64 < n then 5 else 0) else 4
def takeE (l : List Nmd) (next : Int) (nm : ByteArray) : Int :=
 if okName nm then (if l.any (fun y => decide (y.2 = nm)) then 6 else if 8 ≤ l.length ∨ 255 ≤ next then 3 else 0) else 1
def findE (l : List Nmd) (id : Int) : Int := if l.any (fun y => decide (y.1 = id)) then 0 else 71
def mayE (size : Int) (l : List Nmd) (next : Int) (x : Opn) : Int :=
 if what x = 1 then writeE size (at_ x) (data x).length
 else if what x = 2 ∨ what x = 3 then touchE size (at_ x) (num x)
 else if what x = 4 then takeE l next (name x)
 else if what x = 5 ∨ what x = 6 then findE l (idO x)
 else if what x = 7 then 0
 else if what x = 8 then (if 0 ≤ num x ∧ num x ≤ 65536 then 0 else 4)
 else 22
def named (l : List Snp) : List Nmd := l.map (fun x => (x.1, x.2.1))
def sector (b : Sec) : Sec := if allZ b then [] else b
def cutN : Nat → List UInt8 → Dsk
 | 0, _ => []
 | n + 1, b => sector (b.take 64) :: cutN n (b.drop 64)
def cut (b : List UInt8) : Dsk := cutN (b.length / 64) b
def zeros : Sec := List.replicate 64 0
def octets (d : Dsk) : List UInt8 := d.flatMap (fun s => if s = [] then zeros else s)
def part (d : Dsk) (a n : Nat) : Dsk := (d.drop a).take n
def over (d : Dsk) (a : Nat) (p : Dsk) : Dsk := d.take a ++ p ++ d.drop (a + p.length)
def place (l : List Snp) (id : Int) : Nat := l.findIdx (fun y => decide (y.1 = id))
def diskOf (l : List Snp) (id : Int) : Dsk := (l.getD (place l id) (0, ByteArray.empty, [])).2.2
def sized (d : Dsk) (n : Nat) : Dsk := (d ++ List.replicate (n - d.length) []).take n
def chgS (s : Sta) (x : Opn) : Sta :=
 if what x = 1 then (over s.1 (at_ x).toNat (cut (data x)), s.2.1, s.2.2)
 else if what x = 3 then (over s.1 (at_ x).toNat (List.replicate (num x).toNat []), s.2.1, s.2.2)
 else if what x = 4 then (s.1, s.2.1 ++ [(s.2.2, name x, s.1)], s.2.2 + 1)
 else if what x = 5 then (s.1, s.2.1.eraseIdx (place s.2.1 (idO x)), s.2.2)
 else if what x = 6 then (diskOf s.2.1 (idO x), s.2.1, s.2.2)
 else if what x = 8 then (sized s.1 (num x).toNat, s.2.1, s.2.2)
 else s
def chgD (s : Sta) (x : Opn) : List UInt8 := if what x = 2 then octets (part s.1 (at_ x).toNat (num x).toNat) else []
def chgI (s : Sta) (x : Opn) : Int := if what x = 4 then s.2.2 else 0
def chgL (s : Sta) (x : Opn) : List Nmd := if what x = 7 then named s.2.1 else []
def opE (s : Sta) (x : Opn) : Int := mayE s.1.length (named s.2.1) s.2.2 x
def doS (s : Sta) (x : Opn) : Sta := if ok s then (if opE s x = 0 then chgS s x else s) else ([], [], 0)
def doR (s : Sta) (x : Opn) : Rpl :=
 if ok s then (if opE s x = 0 then (0, chgD s x, chgI s x, chgL s x, ((chgS s x).1.length : Int)) else (opE s x, [], 0, [], (s.1.length : Int))) else (9, [], 0, [], 0)
end Mo
namespace Mo
abbrev Apart2 (x y : Snp) : Prop := x.1 < y.1 ∧ x.2.1 ≠ y.2.1
theorem qFq (next : Int) : ∀ (l : List Snp) (last : Int) (seen : List ByteArray), okSnaps next last seen l = true ↔
 (∀ x ∈ l, okDisk x.2.2 = true ∧ okName x.2.1 = true ∧ last < x.1 ∧ x.1 < next ∧ x.2.1 ∉ seen) ∧ l.Pairwise Apart2
 | [], last, seen => by simp [okSnaps]
 | x :: l, last, seen => by
   have ih := qFq next l x.1 (seen ++ [x.2.1])
   unfold okSnaps
   simp only [Bool.and_eq_true, decide_eq_true_eq, Bool.not_eq_true', List.any_eq_false]
   rw [ih, List.pairwise_cons]
   constructor
   · rintro ⟨⟨⟨⟨⟨h1, h2⟩, h3⟩, h4⟩, h5⟩, h6, h7⟩
     refine ⟨fun y hy => ?_, fun y hy => ?_, h7⟩
     · rcases List.mem_cons.1 hy with rfl | hy
       · exact ⟨h1, h4, h2, h3, fun hm => h5 _ hm rfl⟩
       · obtain ⟨k1, k2, k3, k4, k5⟩ := h6 y hy
         exact ⟨k1, k2, by omega, k4, fun hm => k5 (List.mem_append_left _ hm)⟩
     · obtain ⟨k1, k2, k3, k4, k5⟩ := h6 y hy
       exact ⟨k3, fun e => k5 (by rw [← e]; simp)⟩
   · rintro ⟨h1, h2, h3⟩
     obtain ⟨k1, k2, k3, k4, k5⟩ := h1 x (by simp)
     refine ⟨⟨⟨⟨⟨k1, k3⟩, k4⟩, k2⟩, fun n hn e => k5 (by rw [← e]; exact hn)⟩, fun y hy => ?_, h3⟩
     obtain ⟨j1, j2, j3, j4, j5⟩ := h1 y (by simp [hy])
     obtain ⟨p1, p2⟩ := h2 y hy
     exact ⟨j1, j2, p1, j4, fun hm => by
      rcases List.mem_append.1 hm with hm | hm
      · exact j5 hm
      · rw [List.mem_singleton] at hm; exact p2 hm.symm⟩
structure Fine (s : Sta) : Prop where
 now : okDisk s.1 = true
 few : s.2.1.length ≤ 8
 low : 1 ≤ s.2.2
 high : s.2.2 ≤ 255
 each : ∀ x ∈ s.2.1, okDisk x.2.2 = true ∧ okName x.2.1 = true ∧ 0 < x.1 ∧ x.1 < s.2.2
 apart : s.2.1.Pairwise Apart2
theorem ok_iff (s : Sta) : ok s = true ↔ Fine s := by
 unfold ok
 simp only [Bool.and_eq_true, decide_eq_true_eq]
 rw [qFq]
 constructor
 · rintro ⟨⟨⟨⟨h1, h2⟩, h3⟩, h4⟩, h5, h6⟩
   exact ⟨h1, h2, h3, h4, fun x hx => by obtain ⟨a, b, c, d, -⟩ := h5 x hx; exact ⟨a, b, c, d⟩, h6⟩
 · rintro ⟨h1, h2, h3, h4, h5, h6⟩
   exact ⟨⟨⟨⟨h1, h2⟩, h3⟩, h4⟩, fun x hx => by obtain ⟨a, b, c, d⟩ := h5 x hx; exact ⟨a, b, c, d, by simp⟩, h6⟩
theorem checkE_zero {s : Sta} : checkE s = 0 ↔ ok s = true := by
 unfold checkE; split <;> simp_all
theorem checkE_nine {s : Sta} (h : ok s = false) : checkE s = 9 := by unfold checkE; rw [h]; rfl
theorem okSec_len {b : Sec} (h : okSec b = true) : b = [] ∨ (b.length = 64 ∧ allZ b = false) := by
 unfold okSec at h
 simp only [Bool.or_eq_true, decide_eq_true_eq, Bool.and_eq_true, Bool.not_eq_true'] at h
 rcases h with h | h
 · exact .inl (List.length_eq_zero_iff.1 h)
 · exact .inr h
theorem okSec_sector {b : Sec} (h : b.length = 64) : okSec (sector b) = true := by
 unfold sector okSec
 by_cases hz : allZ b = true
 · rw [if_pos hz]; rfl
 · rw [if_neg hz]; simp [h, hz]
theorem okDisk_iff {d : Dsk} : okDisk d = true ↔ d.length ≤ 65536 ∧ ∀ s ∈ d, okSec s = true := by
 unfold okDisk
 rw [Bool.and_eq_true, decide_eq_true_eq, List.all_eq_true]
theorem cutN_len : ∀ (n : Nat) (b : List UInt8), (cutN n b).length = n
 | 0, _ => rfl
 | n + 1, b => by show (cutN n (b.drop 64)).length + 1 = _; rw [cutN_len n]
theorem cutN_ok : ∀ (n : Nat) (b : List UInt8), n * 64 ≤ b.length → ∀ s ∈ cutN n b, okSec s = true
 | 0, _, _, s, hs => by cases hs
 | n + 1, b, h, s, hs => by
   rcases List.mem_cons.1 hs with rfl | hs
   · exact okSec_sector (by rw [List.length_take]; omega)
   · exact cutN_ok n (b.drop 64) (by rw [List.length_drop]; omega) s hs
theorem zeros_of {b : Sec} (hl : b.length = 64) (hz : allZ b = true) : b = zeros := by
 unfold allZ at hz
 rw [List.all_eq_true] at hz
 refine List.eq_replicate_iff.2 ⟨hl, fun x hx => by simpa using hz x hx⟩
theorem over_len {d : Dsk} {a : Nat} {p : Dsk} (h : a + p.length ≤ d.length) : (over d a p).length = d.length := by
 unfold over
 rw [List.length_append, List.length_append, List.length_take, List.length_drop]; omega
theorem over_mem {d : Dsk} {a : Nat} {p : Dsk} {x : Sec} (h : x ∈ over d a p) : x ∈ d ∨ x ∈ p := by
 unfold over at h
 rcases List.mem_append.1 h with h | h
 · rcases List.mem_append.1 h with h | h
   · exact .inl (List.mem_of_mem_take h)
   · exact .inr h
 · exact .inl (List.mem_of_mem_drop h)
theorem sized_len (d : Dsk) (n : Nat) : (sized d n).length = n := by
 unfold sized
 rw [List.length_take, List.length_append, List.length_replicate]; omega
theorem sized_at {d : Dsk} {n i : Nat} (hi : i < n) : (sized d n)[i]'(by rw [sized_len]; exact hi) = d.getD i [] := by
 unfold sized
 rw [List.getElem_take]
 by_cases h : i < d.length
 · rw [List.getElem_append_left h, List.getD_eq_getElem?_getD, List.getElem?_eq_getElem h]; rfl
 · rw [List.getElem_append_right (by omega), List.getElem_replicate, List.getD_eq_getElem?_getD, List.getElem?_eq_none (by omega)]; rfl
theorem sized_mem {d : Dsk} {n : Nat} {x : Sec} (h : x ∈ sized d n) : x ∈ d ∨ x = [] := by
 have h := List.mem_of_mem_take h
 rcases List.mem_append.1 h with h | h
 · exact .inl h
 · exact .inr (List.eq_of_mem_replicate h)
theorem writeE_zero {size at' : Int} {len : Nat} (h : writeE size at' len = 0) : len % 64 = 0 ∧ 0 < len ∧ len / 64 ≤ 64 ∧ fits size at' (len / 64 : Nat) := by
 unfold writeE at h
 split at h
 · cases h
 · rename_i h1
   split at h
   · rename_i h2; exact ⟨by omega, by omega, by omega, h2⟩
   · cases h
theorem touchE_zero {size at' n : Int} (h : touchE size at' n = 0) : fits size at' n ∧ n ≤ 64 := by
 unfold touchE at h
 split at h
 · rename_i h1
   split at h
   · cases h
   · exact ⟨h1, by omega⟩
 · cases h
theorem findE_zero {l : List Nmd} {id : Int} : findE l id = 0 ↔ ∃ y ∈ l, y.1 = id := by
 unfold findE
 constructor
 · intro h
   split at h
   · rename_i h1
     obtain ⟨y, hy, hd⟩ := List.any_eq_true.1 h1
     exact ⟨y, hy, by simpa using hd⟩
   · cases h
 · rintro ⟨y, hy, hd⟩
   rw [if_pos (List.any_eq_true.2 ⟨y, hy, by simpa using hd⟩)]
theorem takeE_zero {l : List Nmd} {next : Int} {nm : ByteArray} (h : takeE l next nm = 0) : okName nm = true ∧ (∀ y ∈ l, y.2 ≠ nm) ∧ l.length < 8 ∧ next < 255 := by
 unfold takeE at h
 split at h
 · rename_i h1
   split at h
   · cases h
   · rename_i h2
     split at h
     · cases h
     · rename_i h3
       refine ⟨h1, fun y hy e => h2 (List.any_eq_true.2 ⟨y, hy, by simpa using e⟩), by omega, by omega⟩
 · cases h
theorem place_lt {l : List Snp} {id : Int} (h : findE (named l) id = 0) : place l id < l.length ∧ ∀ h' : place l id < l.length, l[place l id].1 = id := by
 obtain ⟨y, hy, he⟩ := findE_zero.1 h
 unfold named at hy
 obtain ⟨x, hx, rfl⟩ := List.mem_map.1 hy
 have hl : place l id < l.length := List.findIdx_lt_length_of_exists ⟨x, hx, by simpa using he⟩
 refine ⟨hl, fun h' => ?_⟩
 have := List.findIdx_getElem (w := hl) (p := fun y : Snp => decide (y.1 = id))
 simp only [decide_eq_true_eq] at this
 exact this
theorem diskOf_eq {l : List Snp} {id : Int} (h : place l id < l.length) : diskOf l id = l[place l id].2.2 := by
 unfold diskOf
 rw [List.getD_eq_getElem?_getD, List.getElem?_eq_getElem h]; rfl
theorem Fine.chg {s : Sta} (h : Fine s) {x : Opn} (he : opE s x = 0) : Fine (chgS s x) := by
 have hd := okDisk_iff.1 h.now
 unfold opE mayE at he
 unfold chgS
 by_cases h1 : what x = 1
 · rw [if_pos h1] at he ⊢
   obtain ⟨e1, e2, e3, f1, f2, f3, f4⟩ := writeE_zero he
   have hc : (cut (data x)).length = (data x).length / 64 := cutN_len _ _
   have hl : (at_ x).toNat + (cut (data x)).length ≤ s.1.length := by rw [hc]; omega
   refine ⟨okDisk_iff.2 ⟨by show (over _ _ _).length ≤ _; rw [over_len hl]; exact hd.1, fun y hy => ?_⟩, h.few, h.low, h.high, h.each, h.apart⟩
   rcases over_mem hy with hy | hy
   · exact hd.2 y hy
   · exact cutN_ok _ _ (by omega) y hy
 rw [if_neg h1] at he ⊢
 by_cases h3 : what x = 3
 · rw [if_pos (.inr h3)] at he
   rw [if_pos h3]
   obtain ⟨⟨f1, f2, f3, f4⟩, f5⟩ := touchE_zero he
   have hl : (at_ x).toNat + (List.replicate (num x).toNat ([] : Sec)).length ≤ s.1.length := by rw [List.length_replicate]; omega
   refine ⟨okDisk_iff.2 ⟨by show (over _ _ _).length ≤ _; rw [over_len hl]; exact hd.1, fun y hy => ?_⟩, h.few, h.low, h.high, h.each, h.apart⟩
   rcases over_mem hy with hy | hy
   · exact hd.2 y hy
   · rw [List.eq_of_mem_replicate hy]; rfl
 rw [if_neg h3]
 by_cases h2 : what x = 2
 · rw [if_neg (by omega), if_neg (by omega), if_neg (by omega), if_neg (by omega)]
   exact h
 rw [if_neg (by omega)] at he
 by_cases h4 : what x = 4
 · rw [if_pos h4] at he ⊢
   obtain ⟨e1, e2, e3, e4⟩ := takeE_zero he
   have hlen : s.2.1.length < 8 := by simpa [named] using e3
   have hl := h.low
   refine ⟨h.now, by show (s.2.1 ++ [_]).length ≤ 8; rw [List.length_append, List.length_singleton]; omega, by show 1 ≤ s.2.2 + 1; omega, by show s.2.2 + 1 ≤ 255; omega, fun y hy => ?_, List.pairwise_append.2 ⟨h.apart, List.pairwise_singleton _ _, fun y hy z hz => ?_⟩⟩
   · rcases List.mem_append.1 hy with hy | hy
     · obtain ⟨k1, k2, k3, k4⟩ := h.each y hy
       exact ⟨k1, k2, k3, by show y.1 < s.2.2 + 1; omega⟩
     · rw [List.mem_singleton] at hy
       subst hy
       exact ⟨h.now, e1, by show 0 < s.2.2; omega, by show s.2.2 < s.2.2 + 1; omega⟩
   · rw [List.mem_singleton] at hz
     subst hz
     exact ⟨(h.each y hy).2.2.2, e2 (y.1, y.2.1) (List.mem_map.2 ⟨y, hy, rfl⟩)⟩
 rw [if_neg h4] at he ⊢
 by_cases h5 : what x = 5
 · rw [if_pos h5]
   have hs := List.eraseIdx_sublist s.2.1 (place s.2.1 (idO x))
   refine ⟨h.now, Nat.le_trans hs.length_le h.few, h.low, h.high, fun y hy => h.each y (hs.subset hy), h.apart.sublist hs⟩
 rw [if_neg h5]
 by_cases h6 : what x = 6
 · rw [if_pos (.inr h6)] at he
   rw [if_pos h6]
   obtain ⟨p1, -⟩ := place_lt he
   refine ⟨?_, h.few, h.low, h.high, h.each, h.apart⟩
   show okDisk (diskOf _ _) = true
   rw [diskOf_eq p1]
   exact (h.each _ (List.getElem_mem p1)).1
 rw [if_neg (by omega)] at he
 rw [if_neg h6]
 by_cases h8 : what x = 8
 · rw [if_neg (by omega), if_pos h8] at he
   rw [if_pos h8]
   have hn : 0 ≤ num x ∧ num x ≤ 65536 := by
    by_cases hc : 0 ≤ num x ∧ num x ≤ 65536
    · exact hc
    · rw [if_neg hc] at he; cases he
   refine ⟨okDisk_iff.2 ⟨by show (sized _ _).length ≤ _; rw [sized_len]; omega, fun y hy => ?_⟩, h.few, h.low, h.high, h.each, h.apart⟩
   rcases sized_mem hy with hy | hy
   · exact hd.2 y hy
   · rw [hy]; rfl
 · rw [if_neg h8]; exact h
end Mo
end Go.Proofs.Ytoophkmnppoppaa
namespace Go.Proofs.Ytoophkmnppoppaa
abbrev Act := Int × Int × List UInt8
abbrev Host := List (List UInt8) × List Act × Int
def rBytes : Rep (List UInt8) := q6Z rByte (by decide)
def rSectors : Rep (List (List UInt8)) := q6Z rBytes (by decide)
namespace Hst
def isWrite (cap : Int) (a : Act) : Bool := decide (a.1 = 1) && decide (0 ≤ a.2.1) && decide (a.2.1 < cap) && decide (a.2.2.length = 64)
def isLen (cap : Int) (a : Act) : Bool := decide (a.1 = 2) && decide (0 ≤ a.2.1) && decide (a.2.1 ≤ cap) && decide (a.2.2.length = 0)
def actOk (cap : Int) (a : Act) : Bool := isWrite cap a || isLen cap a
def headOk (s : Host) : Bool := decide (1 ≤ s.2.2) && decide (s.2.2 ≤ 65536) && decide ((s.1.length : Int) ≤ s.2.2) && decide (s.2.1.length ≤ 4096)
def ok (s : Host) : Bool := headOk s && s.1.all (fun b => decide (b.length = 64)) && s.2.1.all (actOk s.2.2)
def checkE (s : Host) : Int := if ok s then 0 else 9
def zeros : List UInt8 := List.replicate 64 0
def done (l : List (List UInt8)) (a : Act) : List (List UInt8) :=
 if a.1 = 1 then (if a.2.1 < (l.length : Int) then l.set a.2.1.toNat a.2.2 else l) else l.take a.2.1.toNat ++ List.replicate (a.2.1.toNat - l.length) zeros
def doneAll (keep : Nat → Bool) : Nat → List (List UInt8) → List Act → List (List UInt8)
 | _, l, [] => l
 | k, l, a :: r => doneAll keep (k + 1) (if keep k then done l a else l) r
def settled (s : Host) (keep : Nat → Bool) : Host := (doneAll keep 0 s.1 s.2.1, [], s.2.2)
def all : Nat → Bool := fun _ => true
def none : Host := ([], [], 0)
def newE (cap : Int) : Int := if 1 ≤ cap ∧ cap ≤ 65536 then 0 else 4
def newS (cap : Int) : Host := if newE cap = 0 then ([], [], cap) else none
def lengthN (s : Host) : Nat := if ok s then (settled s all).1.length else 0
def writeE (s : Host) (p : Int) (d : List UInt8) : Int :=
 if ok s then (if 0 ≤ p ∧ p < (lengthN s : Int) then (if d.length = 64 then (if s.2.1.length < 4096 then 0 else 51) else 1) else 4) else 9
end Hst
theorem q7x {α : Type} {A : Rep α} {hs : 0 < A.size} {w : World} {P : Nat → Prop} {a : Option Addr} {n c : Nat} {l : List α} (h : (q6Z A hs).rd w P [.slice a n c] l) (hn : 0 < n) :
 ∃ b off, a = some ⟨b, off, none⟩ ∧ P b ∧ b < w.heap.size ∧ ∀ (j : Nat) (hj : j < l.length), ∃ cj, A.rd w P cj l[j] ∧ ∀ (k : Nat) (v : Value), cj[k]? = some v → w.cell? ⟨b, off + (j * A.size + k), none⟩ = some v := by
 obtain ⟨a', n', c', e, h1, h2, h3, h4, h5⟩ := h
 simp only [List.cons.injEq, Value.slice.injEq, and_true] at e
 obtain ⟨rfl, rfl, rfl⟩ := e
 cases a with
 | none => have := h3 rfl; omega
 | some x =>
   have hE := h5 x rfl
   have hb := Elems.block hs hE 0 (by omega)
   obtain ⟨hP, cj, g1, g2⟩ := hE 0 (by omega)
   obtain ⟨b, off, spot⟩ := x
   have h0 := g2 0 _ (List.getElem?_eq_getElem (by rw [A.len g1]; exact hs))
   rw [Nat.zero_mul, Nat.zero_add] at h0
   have hspot : spot = none := by simpa [Addr.add] using World.cell?_spot h0
   subst hspot
   refine ⟨b, off, rfl, hP, hb, fun j hj => ?_⟩
   obtain ⟨_, cj, g1, g2⟩ := hE j hj
   exact ⟨cj, g1, fun k v hv => by rw [← Addr.add_lit]; exact g2 k v hv⟩
theorem q5J {α : Type} {A : Rep α} {hs : 0 < A.size} {hs' : 0 < (q6Z A hs).size} {w : World} {P : Nat → Prop} {a : Option Addr} {n c : Nat} {l : List (List α)} (h : (q6Z (q6Z A hs) hs').rd w P [.slice a n c] l) (hn : 0 < n) :
 ∃ b off, a = some ⟨b, off, none⟩ ∧ P b ∧ b < w.heap.size ∧ ∀ (j : Nat) (hj : j < l.length), ∃ x m d, (q6Z A hs).rd w P [.slice x m d] l[j] ∧ l[j].length = m ∧ w.cell? ⟨b, off + j, none⟩ = some (.slice x m d) := by
 obtain ⟨b, off, e1, e2, e3, e4⟩ := q7x h hn
 refine ⟨b, off, e1, e2, e3, fun j hj => ?_⟩
 obtain ⟨cj, g1, g2⟩ := e4 j hj
 have g1' := g1
 obtain ⟨x, m, d, rfl, hl, _⟩ := g1
 refine ⟨x, m, d, g1', hl, ?_⟩
 have := g2 0 (.slice x m d) rfl
 rwa [show j * (q6Z A hs).size + 0 = j from by show j * 1 + 0 = j; omega] at this
def rStr : Rep ByteArray where
 size := 1
 bytes := 16
 rd _ _ cs s := cs = [.string s] ∧ s.size ≤ maxLen
 len h := by rw [h.1]; rfl
 one h v hv := by rw [h.1] at hv; simp at hv; subst hv; rfl
 keep h _ := h
 weaken h _ := h
def rSnp : Rep Snp := q9Z rInt (q9Z rStr rSectors)
def rSnps : Rep (List Snp) := q6Z rSnp (by decide)
def rSta : Rep Sta := q9Z rSectors (q9Z rSnps rInt)
def rNmd : Rep Nmd := q9Z rInt rStr
def rNmds : Rep (List Nmd) := q6Z rNmd (by decide)
def rOpn : Rep Opn := q9Z rInt (q9Z rInt (q9Z rInt (q9Z rInt (q9Z rStr rBytes))))
end Go.Proofs.Ytoophkmnppoppaa
namespace Go.Proofs.Ytoophkmnppoppaa
set_option linter.unusedVariables false
theorem q8Q {w : World} {P : Nat → Prop} {a : Option Addr} {n c : Nat} {l : List Nmd} (h : rNmds.rd w P [.slice a n c] l) (hn : 0 < n) :
 ∃ b off, a = some ⟨b, off, none⟩ ∧ P b ∧ b < w.heap.size ∧ ∀ (j : Nat) (hj : j < l.length),
   w.cell? ⟨b, off + j * 2, none⟩ = some (.int .i64 l[j].1) ∧ w.cell? ⟨b, off + j * 2 + 1, none⟩ = some (.string l[j].2) ∧ (-9223372036854775808 ≤ l[j].1 ∧ l[j].1 ≤ 9223372036854775807) ∧ l[j].2.size ≤ maxLen := by
 obtain ⟨b, off, e1, e2, e3, e4⟩ := q7x h hn
 refine ⟨b, off, e1, e2, e3, fun j hj => ?_⟩
 obtain ⟨cj, ⟨c0, c1, rfl, ⟨rfl, k1⟩, rfl, k2⟩, g2⟩ := e4 j hj
 have g0 := g2 0 _ rfl
 have g1 := g2 1 _ rfl
 rw [show rNmd.size = 2 from rfl] at g0 g1
 rw [Nat.add_zero] at g0
 rw [← Nat.add_assoc] at g1
 exact ⟨g0, g1, k1, k2⟩
theorem q1J {w : World} {P : Nat → Prop} {a : Option Addr} {n c : Nat} {l : List Snp} (h : rSnps.rd w P [.slice a n c] l) (hn : 0 < n) :
 ∃ b off, a = some ⟨b, off, none⟩ ∧ P b ∧ b < w.heap.size ∧ ∀ (j : Nat) (hj : j < l.length), ∃ x m d, rSectors.rd w P [.slice x m d] l[j].2.2 ∧ l[j].2.2.length = m ∧
   w.cell? ⟨b, off + j * 3, none⟩ = some (.int .i64 l[j].1) ∧ w.cell? ⟨b, off + j * 3 + 1, none⟩ = some (.string l[j].2.1) ∧ w.cell? ⟨b, off + j * 3 + 2, none⟩ = some (.slice x m d) ∧ (-9223372036854775808 ≤ l[j].1 ∧ l[j].1 ≤ 9223372036854775807) ∧ l[j].2.1.size ≤ maxLen := by
 obtain ⟨b, off, e1, e2, e3, e4⟩ := q7x h hn
 refine ⟨b, off, e1, e2, e3, fun j hj => ?_⟩
 obtain ⟨cj, ⟨c0, c1, rfl, ⟨rfl, k1⟩, d0, d1, rfl, ⟨rfl, k2⟩, k3⟩, g2⟩ := e4 j hj
 have k3' := k3
 obtain ⟨x, m, d, rfl, hl, _⟩ := k3
 have g0 := g2 0 _ rfl
 have g1 := g2 1 _ rfl
 have g3 := g2 2 _ rfl
 rw [show rSnp.size = 3 from rfl] at g0 g1 g3
 rw [Nat.add_zero] at g0
 rw [← Nat.add_assoc] at g1 g3
 exact ⟨x, m, d, k3', hl, g0, g1, g3, k1, k2⟩
theorem q9Q {w : World} {P : Nat → Prop} {a : Option Addr} {n c : Nat} {l : Dsk} (h : rSectors.rd w P [.slice a n c] l) (hn : 0 < n) :
 ∃ b off, a = some ⟨b, off, none⟩ ∧ P b ∧ b < w.heap.size ∧ ∀ (j : Nat) (hj : j < l.length), ∃ x m d, rBytes.rd w P [.slice x m d] l[j] ∧ l[j].length = m ∧ w.cell? ⟨b, off + j, none⟩ = some (.slice x m d) := q5J h hn
theorem q8q {w : World} {P : Nat → Prop} {a : Option Addr} {n c : Nat} {l : List UInt8} (h : rBytes.rd w P [.slice a n c] l) (hn : 0 < n) :
 ∃ b off, a = some ⟨b, off, none⟩ ∧ P b ∧ b < w.heap.size ∧ ∀ (j : Nat) (hj : j < l.length), w.cell? ⟨b, off + j, none⟩ = some (.int .u8 (l[j].toNat : Int)) := by
 obtain ⟨b, off, e1, e2, e3, e4⟩ := q7x h hn
 refine ⟨b, off, e1, e2, e3, fun j hj => ?_⟩
 obtain ⟨cj, g1, g2⟩ := e4 j hj
 have e : cj = [.int .u8 (l[j].toNat : Int)] := g1
 subst e
 have := g2 0 _ rfl
 rwa [show j * rByte.size + 0 = j from by show j * 1 + 0 = j; omega] at this
theorem q0Q {α : Type} {A : Rep α} {hs : 0 < A.size} {w : World} {P : Nat → Prop} {a : Option Addr} {n c : Nat} {l : List α} (h : (q6Z A hs).rd w P [.slice a n c] l) : l.length = n ∧ n ≤ c ∧ (a = none → c = 0) ∧ n * A.bytes ≤ 140737488351232 := by
 obtain ⟨a', n', c', e, h1, h2, h3, h4, _⟩ := h
 simp only [List.cons.injEq, Value.slice.injEq, and_true] at e
 obtain ⟨rfl, rfl, rfl⟩ := e
 exact ⟨h1, h2, h3, h4⟩
theorem q0X {w : World} {P : Nat → Prop} {cs : List Value} {s : Sta} (h : rSta.rd w P cs s) :
 ∃ a n c b m d, cs = [.slice a n c, .slice b m d, .int .i64 s.2.2] ∧ rSectors.rd w P [.slice a n c] s.1 ∧ rSnps.rd w P [.slice b m d] s.2.1 ∧ (-9223372036854775808 ≤ s.2.2 ∧ s.2.2 ≤ 9223372036854775807) := by
 obtain ⟨c0, c1, rfl, k0, d0, d1, rfl, k1, rfl, k2⟩ := h
 have k0' := k0
 have k1' := k1
 obtain ⟨a, n, c, rfl, -⟩ := k0
 obtain ⟨b, m, d, rfl, -⟩ := k1
 exact ⟨a, n, c, b, m, d, rfl, k0', k1', k2⟩
theorem q1X {w : World} {P : Nat → Prop} {cs : List Value} {x : Opn} (h : rOpn.rd w P cs x) :
 ∃ a n c, cs = [.int .i64 x.1, .int .i64 x.2.1, .int .i64 x.2.2.1, .int .i64 x.2.2.2.1, .string x.2.2.2.2.1, .slice a n c] ∧ rBytes.rd w P [.slice a n c] x.2.2.2.2.2 ∧
   (-9223372036854775808 ≤ x.1 ∧ x.1 ≤ 9223372036854775807) ∧ (-9223372036854775808 ≤ x.2.1 ∧ x.2.1 ≤ 9223372036854775807) ∧ (-9223372036854775808 ≤ x.2.2.1 ∧ x.2.2.1 ≤ 9223372036854775807) ∧ (-9223372036854775808 ≤ x.2.2.2.1 ∧ x.2.2.2.1 ≤ 9223372036854775807) ∧ x.2.2.2.2.1.size ≤ maxLen := by
 obtain ⟨c0, c1, rfl, ⟨rfl, k0⟩, d0, d1, rfl, ⟨rfl, k1⟩, e0, e1, rfl, ⟨rfl, k2⟩, f0, f1, rfl, ⟨rfl, k3⟩, g0, g1, rfl, ⟨rfl, k4⟩, k5⟩ := h
 have k5' := k5
 obtain ⟨a, n, c, rfl, -⟩ := k5
 exact ⟨a, n, c, rfl, k5', k0, k1, k2, k3, k4⟩
end Go.Proofs.Ytoophkmnppoppaa
