/-
  Facts that the proof rests on, part 45. Conditions: those that each of them names.
-/
import Derived.Laws.IdiomRangeMap
import Derived.Lib.SlMapMerge
import Derived.Maps.Ext
import Derived.Maps.RangeWalk
import Derived.Shelf.SlLaysX
import Derived.WalkKit
import Derived.Test.YtkbmadoaomoojaaGreatK09
import Derived.Test.YtkbmadoaomoojaaGreatK22
import Derived.Test.YtkbmadoaomoojaaGreatK34
import Derived.Test.YtkbmadoaomoojaaGreatK42
namespace Go.Proofs.YtkbmadoaomoojaaGreat
set_option maxRecDepth 20000
open Go.RowKit Go.Maps
set_option linter.unusedVariables false
abbrev NodeT := Option Addr × Nat × Nat × Option Addr × Nat × Nat
def nodeV (x : NodeT) : Value := .agg #[.slice x.1 x.2.1 x.2.2.1, .slice x.2.2.2.1 x.2.2.2.2.1 x.2.2.2.2.2]
def nodeR : Value → Option (DataW Unit × List MemPlace)
 | .agg cs => match cs.toList with
   | [.slice _ _ _, .slice _ _ _] => some (.nil, [])
   | _ => none
 | _ => none
theorem nodeR_inv {v : Value} {y : DataW Unit × List MemPlace} (h : nodeR v = some y) : ∃ x, v = nodeV x := by
 unfold nodeR at h
 split at h
 · rename_i cs
   split at h
   · rename_i a n c a' n' c' e
     have e2 : cs = #[Value.slice a n c, Value.slice a' n' c'] := Array.ext' (by rw [e])
     exact ⟨(a, n, c, a', n', c'), by rw [e2]; rfl⟩
   · cases h
 · cases h
theorem intKeyed : Keyed Tryz.prog 3 := int_keyed Tryz.underlying3
set_option maxHeartbeats 4000000 in
set_option maxRecDepth 100000 in
theorem copyMet_u (bd bs nd ns : Nat) (Dd Ds : DataW Unit) (w : World) (hd : w.ownsMap Tryz.prog 3 nodeR bd nd Dd) (hs : w.ownsMap Tryz.prog 3 nodeR bs ns Ds) (hne : bd ≠ bs) (hroom : nd + Maps.size Ds ≤ maxLen) :
 Calls Tryz.prog 23 #[.map (some bd), .map (some bs)] w fun e w' => e = .returned (.tuple #[]) ∧ w'.ownsMap Tryz.prog 3 nodeR bd (nd + Maps.size Ds) (Lib.mergeD Dd Ds) ∧ w'.ownsMap Tryz.prog 3 nodeR bs ns Ds ∧ w.grownBy w' (some bd) := by
 have hbd := hd.lt
 have hbs := hs.lt
 have K := intKeyed
 go_enter Tryz.func23, Tryz.ntmps23
 go_wp2_with (first
  | (at_range; refine wpList_range_own _ rfl _ 61 rfl 3 63 K Tryz.underlying61 nodeR bs ns _ rfl hs ?_; intro w0 hrg0 hg0 hs0)
  | go_in)
 go_frame
 go_loopw [8] (fun _ wr => ∃ (left : Lit → Bool) (cnt : Nat) (Dout : DataW Unit), wr.ranges Tryz.prog 3 nodeR bs w.heap.size ns Ds left cnt ∧ cnt ≤ Maps.size Ds ∧
  wr.ownsMap Tryz.prog 3 nodeR bd (nd + (Maps.size Ds - cnt)) Dout ∧ Merged Dout Dd Ds left ∧ w.grownBy wr (some bd))
  (fun _ wr => wr.rangeLeft bs w.heap.size)
 case atStart =>
  exact ⟨_, _, Dd, hrg0, Nat.le_refl _, (hd.kept hg0 (by simp)).mono (by omega), merged_start Dd Ds, hg0.but _⟩
 case round =>
  obtain ⟨left, cnt, Dout, hrg, hcs, hout, hM, hgw⟩ := hrel
  go_wp2_with (first
   | (at_next; refine wpList_next_ranges _ rfl _ rfl 3 K nodeR id nodeV (fun key _ _ => ⟨key, rfl⟩) (fun v _ h => nodeR_inv h) bs w.heap.size ns _ _ _ rfl hrg ?_ ?_)
   | go_in)
  · intro hc0 hl0
    go_wp2
    go_end0
    subst hc0
    have e := merged_eq K.one hM hl0 (hout.canon K) (hd.canonK K) (hs.canonK K)
    subst e
    exact ⟨rfl, by simpa using hout, hrg.owns, hgw⟩
  · intro x ca cn cc ca' cn' cc' kl yd yp w1 cnt1 hkey hlx hv hat hrg1 hlt hg1 hs1 hen
    have hout1 := hout.kept hg1 (fun e => by have := Option.some.inj e; omega)
    unfold nodeV at hv hen
    dsimp only at hv hen
    unfold nodeV
    dsimp only
    obtain ⟨wa, hwa, Va, ba, za⟩ := boxedRow w1 63 [.slice none 0 0, .slice none 0 0]
    have p0 := Va.cell (j := 0) rfl
    have p1 := Va.cell (j := 1) rfl
    have f0 := Va.frozen 0
    have f1 := Va.frozen 1
    obtain ⟨wb, hwb⟩ : ∃ v, (wa.setCell ⟨w1.heap.size, 0, none⟩ (.slice ca cn cc)).setCell ⟨w1.heap.size, 1, none⟩ (.slice ca' cn' cc') = v := ⟨_, rfl⟩
    have Vb : Row wb w1.heap.size 63 [.slice ca cn cc, .slice ca' cn' cc'] := by rw [← hwb]; exact (Va.set 0 _).set 1 _
    have KB : Kept (· ≠ w1.heap.size) wa wb := by rw [← hwb]; exact ((Kept.refl _ wa).setCell (p := ⟨w1.heap.size, 0, none⟩) (fun h => h rfl) _).setCell (p := ⟨w1.heap.size, 1, none⟩) (fun h => h rfl) _
    have hbl := Kept.belowOf ba KB (Nat.le_refl _)
    have hgb : w1.grownBy wb none := ⟨hbl.os, hbl.tape, hbl.output, hbl.size, fun i hi _ => hbl.block i hi⟩
    have q0 := Vb.cell (j := 0) rfl
    have q1 := Vb.cell (j := 1) rfl
    have HO : Hid (wb.ownsMap Tryz.prog 3 nodeR bd (nd + (Maps.size Ds - cnt)) Dout) := hout1.kept hgb (by simp)
    have HRG : Hid (wb.ranges Tryz.prog 3 nodeR bs w.heap.size ns Ds (fun z => left z && !z.sameKey kl) cnt1) := hrg1.kept hgb (by simp) (by simp)
    have HRG0 : Hid (wr.ranges Tryz.prog 3 nodeR bs w.heap.size ns Ds left cnt) := hrg
    have HM : Hid (Merged Dout Dd Ds left) := hM
    have HV : Hid _ := hv
    have HAt : Hid _ := hat
    have HG : Hid (w.grownBy wb (some bd)) := (hgw.andThen hg1 (fun j hj => .inl (by cases hj; exact Nat.le_refl _))).andThen hgb (fun j hj => by cases hj)
    have HGs : Hid (w.heap.size ≤ w1.heap.size) := (hgw.andThen hg1 (fun j hj => .inl (by cases hj; exact Nat.le_refl _))).size
    clear Va ba za Vb KB hbl hgb hout1 hout hrg hrg1 hM hv hat hgw hs1 hg1
    go_wp2_with (first
     | (at_mapUpdate; refine wpList_mapUpdate_own _ rfl _ _ _ 61 rfl 3 63 K Tryz.underlying61 nodeR bd _ _ rfl HO.out (by omega) _ _ _ rfl rfl hkey yd yp HV.out ?_; intro w2 hout2 hg2; go_frame)
     | go_in)
    have hrg2 := World.ranges.kept HRG.out hg2 (fun e => hne (Option.some.inj e).symm) (fun e => by have := Option.some.inj e; omega)
    go_roundw
    case rel =>
     exact ⟨_, cnt1, _, hrg2, by omega, hout2.mono (by omega), merged_step HM.out (World.ownsMap.isMap HO.out) (K.key hkey) HAt.out, HG.out.andThen hg2 (fun j hj => .inr hj)⟩
    case measure => rw [hrg2.left_eq, World.ranges.left_eq HRG0.out]; exact hlt
end Go.Proofs.YtkbmadoaomoojaaGreat
namespace Go.Proofs.YtkbmadoaomoojaaGreat
set_option maxRecDepth 20000
open Go.RowKit Go.Maps Go.WideShapes
set_option linter.unusedVariables false
structure KeysAt (w : World) (b : Nat) (K : List Int) : Prop where
 own : ∃ (n : Nat) (D : DataW Unit), w.ownsMap Tryz.prog 3 nodeR b n D ∧ ∀ p : Int, Maps.has D (.int .i64 p) = decide (p ∈ K)
 nodup : K.Nodup
theorem nodup_sub : ∀ {K L : List Int}, K.Nodup → (∀ x ∈ K, x ∈ L) → K.length ≤ L.length
 | [], L, _, _ => Nat.zero_le _
 | a :: K, L, h, hs => by
   have ha := hs a List.mem_cons_self
   have h2 := List.nodup_cons.1 h
   have h' := nodup_sub (K := K) (L := L.erase a) h2.2 (fun x hx => (List.mem_erase_of_ne (by rintro rfl; exact h2.1 hx)).2 (hs x (List.mem_cons_of_mem _ hx)))
   rw [List.length_erase_of_mem ha] at h'
   have := List.length_pos_of_mem ha
   rw [List.length_cons]
   omega
def litInt : Lit → Int
 | .int _ z => z
 | _ => 0
theorem own_ints {w : World} {b n : Nat} {D : DataW Unit} (h : w.ownsMap Tryz.prog 3 nodeR b n D) : ∃ es : List (Lit × DataW Unit), D = .map es ∧ es.Pairwise (fun p q => p.1 ≠ q.1) ∧ ∀ p ∈ es, ∃ z : Int, p.1 = .int .i64 z := by
 obtain ⟨es, clock, _, F, _, rfl⟩ := h
 refine ⟨_, rfl, ((sorted_perm _).pairwise_iff (fun {_ _} hne => Ne.symm hne)).2 (Maps.fit_apart intKeyed F), fun p hp => ?_⟩
 obtain ⟨x, hx, rfl⟩ := List.mem_map.1 (mem_sorted.1 hp)
 obtain ⟨y, hy⟩ := F.reads x hx
 rw [Go.WideElems.rg_of hy]
 obtain ⟨z, -, e, -⟩ := Maps.keyOf_int_inv Tryz.underlying3 (Go.WideElems.rd_key hy)
 exact ⟨z, e⟩
theorem has_ints {es : List (Lit × DataW Unit)} (hz : ∀ p ∈ es, ∃ z : Int, p.1 = .int .i64 z) (q : Int) : Maps.has (.map es) (.int .i64 q) = decide (q ∈ es.map (fun p => litInt p.1)) := by
 rw [Maps.has_eq, Bool.eq_iff_iff, List.any_eq_true, decide_eq_true_iff, List.mem_map]
 constructor
 · rintro ⟨p, hp, h⟩
   obtain ⟨z, e⟩ := hz p hp
   rw [e] at h
   have h2 : z = q := by
    have := h
    unfold Lit.sameKey at this
    exact (of_decide_eq_true this).2
   exact ⟨p, hp, by rw [e, ← h2]; rfl⟩
 · rintro ⟨p, hp, h⟩
   obtain ⟨z, e⟩ := hz p hp
   refine ⟨p, hp, ?_⟩
   rw [e] at h ⊢
   have h2 : z = q := h
   subst h2
   unfold Lit.sameKey
   exact decide_eq_true ⟨rfl, rfl⟩
theorem size_ints {w : World} {b n : Nat} {D : DataW Unit} (h : w.ownsMap Tryz.prog 3 nodeR b n D) {K : List Int} (hK : K.Nodup) (hh : ∀ p : Int, Maps.has D (.int .i64 p) = decide (p ∈ K)) : Maps.size D = K.length := by
 obtain ⟨es, rfl, hp, hz⟩ := own_ints h
 have hm : ∀ q, q ∈ es.map (fun p => litInt p.1) ↔ q ∈ K := fun q => by
  have h1 := hh q
  rw [has_ints hz] at h1
  exact ⟨fun e => by rw [decide_eq_true e] at h1; exact of_decide_eq_true h1.symm, fun e => by rw [decide_eq_true e] at h1; exact of_decide_eq_true h1⟩
 have hn : (es.map (fun p => litInt p.1)).Nodup := by
  unfold List.Nodup
  rw [List.pairwise_map]
  refine List.Pairwise.imp_of_mem (fun {a c} ha hc hne e => ?_) hp
  obtain ⟨x, ex⟩ := hz a ha
  obtain ⟨y, ey⟩ := hz c hc
  rw [ex, ey] at hne e
  exact hne (by have : x = y := e; rw [this])
 have h1 := nodup_sub hn (fun q hq => (hm q).1 hq)
 have h2 := nodup_sub hK (fun q hq => (hm q).2 hq)
 rw [List.length_map] at h1 h2
 show es.length = _
 omega
theorem own_tight {w : World} {b n : Nat} {D : DataW Unit} (h : w.ownsMap Tryz.prog 3 nodeR b n D) : w.ownsMap Tryz.prog 3 nodeR b (Maps.size D) D := by
 obtain ⟨es, clock, hb, F, hs, rfl⟩ := h
 exact ⟨es, clock, hb, F, by simp [Maps.size, length_sorted], rfl⟩
theorem keysAt_new (w : World) : KeysAt (w.alloc (.map #[] 0)) w.heap.size [] := ⟨⟨0, _, World.ownsMap_made w Tryz.prog 3 nodeR, fun p => rfl⟩, List.nodup_nil⟩
theorem KeysAt.lt {w : World} {b : Nat} {K : List Int} (h : KeysAt w b K) : b < w.heap.size := by
 obtain ⟨n, D, ho, -⟩ := h.own
 exact ho.lt
theorem KeysAt.keep {w w' : World} {b : Nat} {K : List Int} (h : KeysAt w b K) (hk : w'.heap[b]? = w.heap[b]?) : KeysAt w' b K := by
 obtain ⟨n, D, ⟨es, clock, hb, F, hs, e⟩, hh⟩ := h.own
 exact ⟨⟨n, D, ⟨es, clock, by rw [hk]; exact hb, F, hs, e⟩, hh⟩, h.nodup⟩
theorem KeysAt.below {w w' : World} {b : Nat} {K : List Int} (h : KeysAt w b K) (k : Below w.heap.size w w') : KeysAt w' b K := h.keep (k.block b h.lt)
theorem mapEs_val : ∀ (n : Nat) (l : List (Int × Value)), ∀ x ∈ mapEs n l, ∃ z ∈ l, x.val = z.2
 | n, [], x, hx => by cases hx
 | n, z :: l, x, hx => by
   simp only [mapEs, List.mem_cons] at hx
   rcases hx with rfl | hx
   · exact ⟨z, by simp, rfl⟩
   · obtain ⟨y, hy, e⟩ := mapEs_val (n + 1) l x hx
     exact ⟨y, by simp [hy], e⟩
theorem IsMet.keysAt {w : World} {b : Nat} {l : List (Int × Value)} (h : IsMet w b l) (hn : (l.map Prod.fst).Nodup) (hr : ∀ z ∈ l, -9223372036854775808 ≤ z.1 ∧ z.1 ≤ 9223372036854775807) (hv : ∀ z ∈ l, ∃ x, z.2 = nodeV x) (hl : l.length ≤ 1000000) : KeysAt w b (l.map Prod.fst) := by
 have hrd : ∀ x ∈ mapEs 0 l, Go.WideElems.rd Tryz.prog 3 nodeR x = Go.WideElems.rd Tryz.prog 3 keysR x := fun x hx => by
  obtain ⟨z, hz, e⟩ := mapEs_val 0 l x hx
  obtain ⟨y, ey⟩ := hv z hz
  unfold Go.WideElems.rd
  rw [show nodeR x.val = keysR x.val from by rw [e, ey]; rfl]
 obtain ⟨D, ho, hp, hs⟩ := met_owns h hn hr hl
 obtain ⟨es, clock, hb, F, hsz, rfl⟩ := ho
 have heq : es = (mapEs 0 l).toArray := by
  have h1 := hb.symm.trans h.eq
  cases h1
  rfl
 subst heq
 have hmap : ((mapEs 0 l).map (Go.WideElems.rg Tryz.prog 3 nodeR)) = (mapEs 0 l).map (Go.WideElems.rg Tryz.prog 3 keysR) := List.map_congr_left fun x hx => by unfold Go.WideElems.rg; rw [hrd x hx]
 have ho2 : w.ownsMap Tryz.prog 3 nodeR b l.length (.map (((mapEs 0 l).toArray.toList.map (Go.WideElems.rg Tryz.prog 3 keysR)).foldr DataW.insert [])) :=
  ⟨(mapEs 0 l).toArray, clock, hb, ⟨F.size, F.stamped, fun x hx => by rw [hrd x (by simpa using hx)]; exact F.reads x hx⟩, hsz, by simp only []; rw [hmap]⟩
 refine ⟨⟨l.length, _, ho2, fun p => ?_⟩, hn⟩
 obtain ⟨es2, e2, -, hz⟩ := own_ints ho2
 rw [e2, has_ints hz]
 have hpm : (es2.map fun p => litInt p.1).Perm (l.map Prod.fst) := by
  have e3 : es2 = ((mapEs 0 l).map (Go.WideElems.rg Tryz.prog 3 keysR)).foldr DataW.insert [] := by
   have := e2.symm
   simp only [DataW.map.injEq] at this
   exact this
  rw [e3, mapEs_rg 0 l hr]
  refine ((sorted_perm _).map _).trans ?_
  rw [List.map_map]
  exact List.Perm.of_eq (List.map_congr_left fun z _ => rfl)
 exact decide_eq_decide.2 hpm.mem_iff
theorem keysAt_copy (w : World) (bd bs : Nat) (K M : List Int) (hd : KeysAt w bd K) (hs : KeysAt w bs M) (hne : bd ≠ bs) (hroom : K.length + M.length ≤ 1000000) :
 Calls Tryz.prog 23 #[.map (some bd), .map (some bs)] w fun e w' => e = .returned (.tuple #[]) ∧ KeysAt w' bd (K ++ M.filter (fun q => !decide (q ∈ K))) ∧ w.grownBy w' (some bd) := by
 obtain ⟨nd, Dd, od, hhd⟩ := hd.own
 obtain ⟨ns, Ds, os, hhs⟩ := hs.own
 have z1 := size_ints od hd.nodup hhd
 have z2 := size_ints os hs.nodup hhs
 refine (copyMet_u bd bs _ ns Dd Ds w (own_tight od) os hne (by rw [z1, z2]; unfold maxLen; omega)).mono ?_
 rintro e w' ⟨rfl, h1, -, h3⟩
 refine ⟨rfl, ⟨⟨_, _, h1, fun p => ?_⟩, List.nodup_append.2 ⟨hd.nodup, List.Pairwise.sublist List.filter_sublist hs.nodup, fun a ha b hb e => ?_⟩⟩, h3⟩
 · obtain ⟨es, e1, -, hz⟩ := own_ints os
   have hk : ∀ q ∈ es, WideAt.IsKeyLit q.1 := by
    obtain ⟨es', e2, -, hk'⟩ := World.ownsMap.entries os intKeyed
    rw [e1] at e2
    simp only [DataW.map.injEq] at e2
    rw [e2]
    exact hk'
   have hs2 := hhs p
   rw [e1, Maps.has_eq] at hs2
   rw [e1]
   show Maps.has (es.foldl (fun D p => D.put p.1 p.2) Dd) _ = _
   rw [has_foldPut _ es Dd (World.ownsMap.isMap od) hk, hhd p, hs2]
   by_cases h1 : p ∈ K
   · rw [decide_eq_true h1, decide_eq_true (List.mem_append.2 (.inl h1))]; rfl
   · rw [decide_eq_false h1, Bool.false_or]
     refine decide_eq_decide.2 ⟨fun h2 => List.mem_append.2 (.inr (List.mem_filter.2 ⟨h2, by simp [h1]⟩)), fun h2 => ?_⟩
     rcases List.mem_append.1 h2 with h2 | h2
     · exact absurd h2 h1
     · exact (List.mem_filter.1 h2).1
 · subst e
   have := (List.mem_filter.1 hb).2
   simp only [ha, decide_true, Bool.not_true] at this
   cases this
end Go.Proofs.YtkbmadoaomoojaaGreat
