/-
  Facts that the proof rests on, part 24. Conditions: those that each of them names.
-/
import Derived.ChangeArms
import Derived.DataReads
import Derived.Deep.Slices
import Derived.OpenShut
import Derived.ProofKit
import Derived.SizedLaws
import Derived.Test.YtkbmadoaomoojaaGreatK00
namespace Go.Proofs.YtkbmadoaomoojaaGreat
set_option maxRecDepth 20000
open Go.ChangeShapes Go.WideShapes Go.ChangeAt Go.RowKit Go.Deep
set_option linter.unusedVariables false
def Opens {α : Type} (Pr : Program) (t : TypeId) (A : Rep α) : Prop :=
 ∀ (H : Type) (enc : TypeId × Value → H) (w : World) (fuel : Nat) (cs : List Value) (d : DataW H) (ps : List MemPlace),
   DataW.trod enc Pr w 0 (fun _ => true) true fuel t cs = some (d, ps) → (∀ k ∈ d.weights Pr t, k ≤ reachBytes) → ∃ x : α, A.rd w (fun _ => True) cs x
theorem opens_int {Pr : Program} {t : TypeId} (ht : Pr.underlying t = some (.int .i64)) : Opens Pr t rInt := by
 intro H enc w fuel cs d ps h _
 obtain ⟨n, rfl, _, hw⟩ := DataW.trod_int ht h
 have := bounds_i64 hw
 exact ⟨n, rfl, by omega, by omega⟩
theorem opens_byte {Pr : Program} {t : TypeId} (ht : Pr.underlying t = some (.int .u8)) : Opens Pr t rByte := by
 intro H enc w fuel cs d ps h _
 obtain ⟨n, rfl, _, hw⟩ := DataW.trod_int ht h
 have hb := bounds_u8 hw
 refine ⟨UInt8.ofNat n.toNat, ?_⟩
 show [Value.int .u8 n] = [.int .u8 ((UInt8.ofNat n.toNat).toNat : Int)]
 rw [UInt8.toNat_ofNat']
 have : ((n.toNat % 2 ^ 8 : Nat) : Int) = n := by omega
 rw [this]
theorem weights_all {H : Type} {Pr : Program} {e : TypeId} {l : List (DataW H)} {d : DataW H} (hd : d ∈ l) : ∀ k ∈ d.weights Pr e, k ∈ DataW.weightsAll Pr e l := by
 induction l with
 | nil => cases hd
 | cons a l ih =>
   intro k hk
   simp only [DataW.weightsAll, List.mem_append]
   rcases List.mem_cons.1 hd with rfl | h
   · exact .inl hk
   · exact .inr (ih h k hk)
theorem exists_list {α : Type} {Q : Nat → α → Prop} : ∀ (n : Nat), (∀ i, i < n → ∃ x, Q i x) → ∃ l : List α, l.length = n ∧ ∀ (i : Nat) (h : i < l.length), Q i l[i]
 | 0, _ => ⟨[], rfl, fun i h => by simp at h⟩
 | n + 1, h => by
   obtain ⟨l, hl, hq⟩ := exists_list n (fun i hi => h i (by omega))
   obtain ⟨x, hx⟩ := h n (by omega)
   refine ⟨l ++ [x], by simp [hl], fun i hi => ?_⟩
   by_cases hin : i < l.length
   · rw [List.getElem_append_left hin]; exact hq i hin
   · have e : i = n := by simp at hi; omega
     subst e
     rw [List.getElem_append_right (by omega)]
     simpa [hl] using hx
theorem opens_list {α : Type} {Pr : Program} {t e : TypeId} {A : Rep α} {hs : 0 < A.size} (ht : Pr.underlying t = some (.slice e)) (hc : Pr.cellsOf e = A.size) (hb : Pr.bytesOf e = A.bytes) (hA : Opens Pr e A) : Opens Pr t (rList A hs) := by
 intro H enc w fuel cs d ps h hw
 rcases open_slice ht h with ⟨rfl, hx⟩ | ⟨a, len, cap, m, n, D, Pl, rfl, _, hl, hm, hmm, hx, hel⟩
 · exact ⟨[], none, 0, 0, rfl, rfl, Nat.le_refl _, fun _ => rfl, by simp, fun x hx => by cases hx⟩
 · simp only [if_true] at hmm
   subst hmm
   simp only [Prod.mk.injEq] at hx
   obtain ⟨rfl, _⟩ := hx
   have hwt : (len + (m - len)) * A.bytes ≤ reachBytes := by
    have := hw ((len + (m - len)) * A.bytes) (by simp [DataW.weights, ht, hb])
    exact this
   have hbound : len * A.bytes ≤ 140737488351232 := by
    have : len * A.bytes ≤ (len + (m - len)) * A.bytes := Nat.mul_le_mul_right _ (by omega)
    unfold reachBytes at hwt
    omega
   have each : ∀ i, i < len → ∃ x : α, ∃ cj, A.rd w (fun _ => True) cj x ∧ ∀ (k : Nat) (v : Value), cj[k]? = some v → w.cell? (a.add (i * A.size + k)) = some v := by
    intro i hi
    obtain ⟨cs', h1, h2⟩ := hel i (by omega)
    obtain ⟨x, hx⟩ := hA H enc w n cs' (D i) (Pl i) h2 (fun k hk => hw k (by
     simp only [DataW.weights, ht, List.mem_cons, List.mem_append]
     exact .inr (.inl (weights_all (List.mem_map.2 ⟨i, List.mem_range.2 hi, rfl⟩) k hk))))
    refine ⟨x, cs', hx, fun k v hv => ?_⟩
    rw [hc] at h1
    obtain ⟨_, g1, g2⟩ := World.cells?_some h1
    have hk : k < A.size := by have := (List.getElem?_eq_some_iff.1 hv).1; rw [A.len hx] at this; exact this
    have := g2 k hk
    rw [Addr.add_add] at this
    rw [this, hv]
   obtain ⟨l, hlen, hl'⟩ := exists_list len each
   refine ⟨l, some a, len, m, rfl, hlen, hl, (fun (h : some _ = none) => by cases h), hbound, fun x hx j hj => ?_⟩
   simp only [Option.some.injEq] at hx
   subst hx
   exact ⟨trivial, hl' j hj⟩
def OpensTail {α : Type} (Pr : Program) (fs : List Field) (off : Nat) (A : Rep α) : Prop :=
 ∀ (H : Type) (enc : TypeId × Value → H) (w : World) (n : Nat) (cs : List Value) (xs : List (DataW H × List MemPlace)), xs.length = fs.length → cs.length = off + A.size →
   (∀ (i : Nat) (f : Field), fs[i]? = some f → DataW.trod enc Pr w 0 (fun _ => true) true n f.type ((cs.drop f.offset).take (Pr.cellsOf f.type)) = xs[i]?) →
   (∀ k ∈ DataW.weightsEach Pr (fs.map (·.type)) (xs.map (·.1)), k ≤ reachBytes) → ∃ x : α, A.rd w (fun _ => True) (cs.drop off) x
theorem opens_last {α : Type} {Pr : Program} {f : Field} {off : Nat} {A : Rep α} (ho : f.offset = off) (hc : Pr.cellsOf f.type = A.size) (hA : Opens Pr f.type A) : OpensTail Pr [f] off A := by
 intro H enc w n cs xs hl hcs hf hw
 match xs, hl with
 | [x], _ =>
   have h0 := hf 0 f rfl
   rw [ho, hc, List.take_of_length_le (by rw [List.length_drop]; omega)] at h0
   simp only [List.getElem?_cons_zero] at h0
   exact hA H enc w n _ x.1 x.2 h0 (fun k hk => hw k (by simpa [DataW.weightsEach] using hk))
theorem opens_struct {α : Type} {Pr : Program} {t : TypeId} {fs : Array Field} {A : Rep α} (ht : Pr.underlying t = some (.struct fs)) (hc : Pr.cellsOf t = A.size) (hA : OpensTail Pr fs.toList 0 A) : Opens Pr t A := by
 intro H enc w fuel cs d ps h hw
 obtain ⟨xs, n, _, hx, hl, hlen, hf⟩ := DataW.trod_struct ht h
 simp only [Prod.mk.injEq] at hx
 obtain ⟨rfl, _⟩ := hx
 obtain ⟨x, hx⟩ := hA H enc w n cs xs (by simpa using hlen) (by rw [hl, hc]; omega) (fun i f hi => hf i f (by simpa using hi)) (fun k hk => hw k (by simpa [DataW.weights, ht] using hk))
 exact ⟨x, by simpa using hx⟩
theorem Opens.arg {α : Type} {Pr : Program} {t : TypeId} {A : Rep α} (hA : Opens Pr t A) {H : Type} {enc : TypeId × Value → H} {w : World} {v : Value} {d : DataW H} {ps : List MemPlace}
 (h : DataW.Trod enc Pr w 0 (fun _ => true) true t v d ps) {ts : List TypeId} {ds : List (DataW H)} (hw : (DataW.weightsEach Pr ts ds).all (· ≤ reachBytes) = true) {j : Nat} (ht : ts[j]? = some t) (hd : ds[j]? = some d) :
 ∃ x : α, A.rd w (fun b => b < w.heap.size) v.cells.toList x := by
 obtain ⟨fuel, hf⟩ := h
 obtain ⟨x, hx⟩ := hA H enc w fuel _ d ps hf (fun k hk => by simpa using List.all_eq_true.1 hw k (DataW.weights_mem_each ht hd k hk))
 exact ⟨x, A.weaken hx (fun b _ hl => hl)⟩
end Go.Proofs.YtkbmadoaomoojaaGreat
namespace Go.Proofs.YtkbmadoaomoojaaGreat
set_option maxRecDepth 20000
open Go.RowKit
set_option linter.unusedVariables false
structure Each {α : Type} (A : Rep α) (w : World) (P : Nat → Prop) (xs : List Value) (l : List α) : Prop where
 len : xs.length = l.length
 rd : ∀ (j : Nat) (v : Value) (x : α), xs[j]? = some v → l[j]? = some x → A.rd w P [v] x
theorem Each.all {α : Type} {A : Rep α} {w : World} {P : Nat → Prop} : ∀ {xs : List Value} {l : List α}, Each A w P xs l → rdAll A w P xs l
 | [], [], _ => rfl
 | [], _ :: _, h => by have := h.len; simp at this
 | _ :: _, [], h => by have := h.len; simp at this
 | v :: xs, x :: l, h => ⟨[v], xs, rfl, h.rd 0 v x rfl rfl, Each.all ⟨by have := h.len; simpa using this, fun j v' x' h1 h2 => h.rd (j + 1) v' x' (by simpa using h1) (by simpa using h2)⟩⟩
theorem Each.append {α : Type} {A : Rep α} {w : World} {P : Nat → Prop} {xs ys : List Value} {l m : List α} (h : Each A w P xs l) (k : Each A w P ys m) : Each A w P (xs ++ ys) (l ++ m) := by
 refine ⟨by simp [h.len, k.len], fun j v x h1 h2 => ?_⟩
 by_cases e : j < xs.length
 · rw [List.getElem?_append_left e] at h1
   rw [List.getElem?_append_left (by rw [← h.len]; exact e)] at h2
   exact h.rd j v x h1 h2
 · rw [List.getElem?_append_right (by omega)] at h1
   rw [List.getElem?_append_right (by rw [← h.len]; omega), ← h.len] at h2
   exact k.rd _ v x h1 h2
theorem Each.replicate {α : Type} {A : Rep α} {w : World} {P : Nat → Prop} {v : Value} {x : α} (n : Nat) (h : A.rd w P [v] x) : Each A w P (List.replicate n v) (List.replicate n x) := by
 refine ⟨by simp, fun j v' x' h1 h2 => ?_⟩
 rw [List.getElem?_replicate] at h1 h2
 split at h1
 · rename_i hj
   rw [if_pos hj] at h2
   cases h1; cases h2; exact h
 · cases h1
end Go.Proofs.YtkbmadoaomoojaaGreat
