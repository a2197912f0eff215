/-
  Facts that the proof rests on, part 22. Conditions: those that each of them names.
-/
import Derived.Lib.AppendZerosOnto
import Derived.Test.YtoophkmnppoppaaM02
import Derived.Test.YtoophkmnppoppaaM10
import Derived.Test.YtoophkmnppoppaaM13
import Derived.Test.YtoophkmnppoppaaM18
namespace Go.Proofs.Ytoophkmnppoppaa
set_option maxHeartbeats 16000000
open Go.RowKit
set_option linter.unusedVariables false
theorem q4z {z : Value} (hz : z.cells = #[z]) (n : Nat) : Builtin.zeroCells z.cells n = (List.replicate n z).toArray := by
 apply Array.toList_inj.1
 rw [hz]
 simp [Builtin.zeroCells]
 apply List.ext_getElem
 · simp
 · intro i h1 h2
   simp [Nat.mod_one]
theorem qDj {P : Program} (w : World) (base : Nat) (t tn ty e : TypeId) (i : TypeInfo) (z : Value) (kq kn : IntKind) (bytes : Nat) (ht : P.underlying t = some (.slice e)) (htn : P.underlying tn = some (.int kn)) (hi : P.info? e = some i) (hz : i.zero = some z)
 (hsize : i.size = 1) (hby : i.bytes = bytes) (hzc : z.cells = #[z]) (h1 : z.oneCell' = true)
 (v : Value) (n : Nat) (xs : List Value) (hown : w.ownsRow base e 1 v n xs) (k : Nat) (h0 : 0 < k) (h63 : n + k ≤ maxLen) (hbytes : (n + k) * bytes ≤ 140737488355328) (hbase : base ≤ w.heap.size) :
 ∃ b d w', (Builtin.append_ #[t, tn] ty #[v, .int kq k]).run P w = .ok (.slice b (n + k) d) w' ∧ w'.ownsRow base e 1 (.slice b (n + k) d) (n + k) (xs ++ List.replicate k z) ∧ w.grownBy w' v.ownBlock := by
 subst hby
 have hsmall : n + k ≤ 9223372036854775807 := by simp only [maxLen] at h63; omega
 have hlen : (xs ++ List.replicate k z).length = (n + k) * 1 := by rw [List.length_append, hown.1, List.length_replicate]; omega
 have hkb : k * i.bytes ≤ 281474976710656 := by rw [Nat.add_mul] at hbytes; omega
 have grown : ∀ (old : Nat), ∀ (row : Option Nat),
  (w.drew.alloc (.cells (xs.toArray ++ Builtin.zeroCells z.cells k ++ Builtin.zeroCells z.cells (grownCap w (n + k) old e - (n + k))) e)).ownsRow base e 1
   (.slice (some ⟨w.heap.size, 0, none⟩) (n + k) (grownCap w (n + k) old e)) (n + k) (xs ++ List.replicate k z) ∧
  w.grownBy (w.drew.alloc (.cells (xs.toArray ++ Builtin.zeroCells z.cells k ++ Builtin.zeroCells z.cells (grownCap w (n + k) old e - (n + k))) e)) row := by
  intro old row
  have hge := grownCap_ge w (n + k) old e
  have hcm : grownCap w (n + k) old e ≤ maxLen := grownCap_le_maxLen w (n + k) old e h63
  refine ⟨⟨hlen, .inr ⟨w.heap.size, _, _, rfl, hbase, heap_alloc_new w.drew _, hge, hcm, ?_, ?_⟩⟩, ⟨rfl, rfl, rfl, by simp, fun q hq _ => by rw [heap_alloc_old w.drew _ (by exact hq)]; rfl⟩⟩
  · rw [q4z hzc, q4z hzc]
    simp only [Array.size_append, List.size_toArray, List.length_replicate, hown.1]
    omega
  · rw [q4z hzc, q4z hzc]
    simp only [Array.toList_append, List.append_assoc]
    rw [← List.append_assoc, ← hlen]
    exact List.take_left
 rcases hown.2 with ⟨rfl, rfl⟩ | ⟨g, cap, cur, rfl, hbg, hg, hnc, hcm, hcs, htake⟩
 · have hx : xs = [] := List.eq_nil_of_length_eq_zero (by simpa using hown.1)
   subst hx
   have hr := Lib.run_append_nil_zeros (P := P) w t tn ty e i z kq kn ht htn hi hz k h0 (by omega) (by omega) hkb
   have hgr := grown 0 (Value.ownBlock (.slice none 0 0))
   simp only [Nat.zero_add, List.nil_append, Array.empty_append] at hgr ⊢
   exact ⟨_, _, _, hr, hgr.1, hgr.2⟩
 · by_cases hroom : n + k ≤ cap
   · have hfit : n + k ≤ cur.size := by rw [hcs]; omega
     have hst := run_storeCells_at P g n e (List.replicate k z) 0 cur w hg (by simpa using hfit) (by intro v hv'; rw [List.eq_of_mem_replicate hv']; exact h1)
     simp only [Nat.add_zero] at hst
     have hr : (Builtin.append_ #[t, tn] ty #[.slice (some ⟨g, 0, none⟩) n cap, .int kq k]).run P w = .ok (.slice (some ⟨g, 0, none⟩) (n + k) cap) (w.setRow g (cur.toList.take n ++ List.replicate k z ++ cur.toList.drop (n + (List.replicate k z).length)).toArray) := by
      have hk : k ≠ 0 := by omega
      have hw : IntKind.i64.wrap (k : Int) = k := by rw [IntKind.wrap_i64]; omega
      have h48i : ¬ (281474976710656 < (k : Int) * (i.bytes : Int)) := by
       rw [← Int.natCast_mul]
       omega
      have hneg : ¬ ((k : Int) < 0) := by omega
      have hns : ¬ (k * i.size = 0) := Nat.mul_ne_zero hk (by omega)
      simp [Builtin.append_, run_underlying ht, run_underlying htn, sizeOf, typeInfo, zeroValue, hi, hz, asInt, asIntOf, hw, hneg, hk, hroom, h48i, hsize, q4z hzc, Addr.add_lit]
      rw [hst]
      simp
     refine ⟨_, _, _, hr, ⟨hlen, .inr ⟨g, cap, _, rfl, hbg, setRow_heap w g cur _ e _ hg, hroom, hcm, ?_, ?_⟩⟩, ⟨rfl, rfl, rfl, by simp, fun q _ hq => setRow_other w g q _ (fun e => hq (by simp [Value.ownBlock, e]))⟩⟩
     · simp only [List.size_toArray, List.length_append, List.length_take, List.length_drop, Array.length_toList, List.length_replicate]
       omega
     · have ht2 : cur.toList.take n = xs := by simpa using htake
       rw [ht2, ← hlen]
       exact List.take_left
   · have holds : ∀ j u, xs[j]? = some u → w.cell? ((⟨g, 0, none⟩ : Addr).add j) = some u := hown.cells (g := g) rfl
     have hf := run_firstCells_some (P := P) w.drew i.size n ⟨g, 0, none⟩ n cap xs (by rw [hown.1, hsize]) holds
     have hr := Lib.run_append_grow_zeros (P := P) w t tn ty e i z kq kn ht htn hi hz (some ⟨g, 0, none⟩) n cap xs hf k h0 (by omega) (by omega) (by omega) hkb (growslice_fits (by omega) hbytes)
     have hgr := grown cap (Value.ownBlock (.slice (some ⟨g, 0, none⟩) n cap))
     exact ⟨_, _, _, hr, hgr.1, hgr.2⟩
theorem info_u8d : (Try.prog.info? 5).map (fun i => (i.zero, i.size, i.bytes)) = some (some (.int .u8 0), 1, 1) := by kernel_rfl
theorem octets_push (D : Dsk) (x : Sec) : Mo.octets (D ++ [x]) = Mo.octets D ++ (if x = [] then Mo.zeros else x) := by
 unfold Mo.octets
 rw [List.flatMap_append]
 simp
theorem part_push {D : Dsk} {A k : Nat} (h : A + k < D.length) : Mo.part D A (k + 1) = Mo.part D A k ++ [D[A + k]] := by
 unfold Mo.part
 rw [List.take_succ_eq_append_getElem (by rw [List.length_drop]; omega), List.getElem_drop]
theorem own_slice1 {w : World} {base n : Nat} {e : TypeId} {v : Value} {xs : List Value} (h : w.ownsRow base e 1 v n xs) : ∃ a c, v = .slice a n c := by
 rcases h.2 with ⟨e, e0⟩ | ⟨g2, cap, cur, e, -⟩
 · exact ⟨none, 0, by rw [e, e0]⟩
 · exact ⟨_, _, e⟩
set_option maxRecDepth 20000 in
theorem qGj (w : World) (P : Nat → Prop) (a : Option Addr) (n c : Nat) (D : Dsk) (hD : rSectors.rd w P [.slice a n c] D) (h64 : ∀ s ∈ D, s = [] ∨ s.length = 64) (A N : Nat) (hA : A + N ≤ n) (hn : n ≤ 65536) :
 Calls Try.prog 54 #[.slice a n c, .int .i64 (A : Int), .int .i64 (N : Int)] w fun e w' => ∃ q r, e = .returned (.slice q (N * 64) r) ∧ rBytes.rd w' (fun b => w.heap.size ≤ b) [.slice q (N * 64) r] (Mo.octets (Mo.part D A N)) ∧ Below w.heap.size w w' := by
 obtain ⟨i0, hi, hz0, hz1', hz2⟩ := info_parts info_u8d
 have HDl : Hid (D.length = n) := (q0Q hD).1
 have HR : Hid (rSectors.rd w P [.slice a n c] D) := hD
 have H64 : Hid _ := h64
 obtain ⟨M, hM⟩ : ∃ M, M = A + N := ⟨_, rfl⟩
 have hMz : (A : Int) + (N : Int) = (M : Int) := by omega
 have HM : Hid (M = A + N) := hM
 have hMn : M ≤ n := by omega
 have hAM : A ≤ M := by omega
 clear hD h64 hA hM
 go_enter Try.func54, Try.ntmps54
 go_wp2
 go_loopw [7, 8] (fun o i wr => ∃ j : Nat, A ≤ j ∧ j ≤ M ∧ i = .int .i64 j ∧ Hid (wr.ownsRow w.heap.size 5 1 o ((j - A) * 64) (cellsOf (Mo.octets (Mo.part D A (j - A))))) ∧ Hid (Below w.heap.size w wr)) (fun _ i _ => M - (intOf i).toNat)
 case atStart => exact ⟨A, Nat.le_refl _, hAM, rfl, by unfold Hid; rw [Nat.sub_self, part_none]; exact World.ownsRow_nil w _ _ _, Below.refl _ _⟩
 case round =>
  obtain ⟨j, hAj, hjM, rfl, HO, HB⟩ := hrel
  by_cases hlt : j < M
  · have hjl : j < D.length := by rw [HDl.out]; omega
    obtain ⟨g, off, rfl, -, hgl, hat⟩ := q9Q (Rep.below HR.out HB.out) (by omega)
    obtain ⟨x, xm, xd, hX, hXl, c0⟩ := hat j hjl
    have HPu : Hid (Mo.octets (Mo.part D A (j + 1 - A)) = Mo.octets (Mo.part D A (j - A)) ++ (if D[j] = [] then Mo.zeros else D[j])) := by
     have e : A + (j - A) = j := by omega
     have h := part_push (D := D) (A := A) (k := j - A) (by omega)
     unfold Hid
     rw [show j + 1 - A = (j - A) + 1 by omega, h, octets_push]
     congr 2 <;> simp only [e]
    have hjz : (j : Int) < (M : Int) := by omega
    have hjn : (j : Int) < (n : Int) := by omega
    have h6 := H64.out D[j] (List.getElem_mem hjl)
    obtain ⟨X, hXX⟩ : ∃ X, X = D[j] := ⟨_, rfl⟩
    rw [← hXX] at hX hXl HPu h6
    have HBw : Hid (w.heap.size ≤ wr.heap.size) := HB.out.size
    clear hat hXX
    by_cases h0 : xm = 0
    · obtain rfl : X = [] := List.length_eq_zero_iff.1 (by omega)
      subst h0
      obtain ⟨b5, d5, w5, hr5, ho5, bg5⟩ := qDj (P := Try.prog) wr w.heap.size 26 3 26 5 i0 (.int .u8 0) .i64 .i64 1 Try.underlying26 Try.underlying3 hi hz0 hz1' hz2 rfl rfl _ _ _ HO.out 64 (by decide) (by unfold maxLen; omega) (by omega) HBw.out
      have HRun : Hid _ := hr5
      have HO5 : Hid (w5.ownsRow w.heap.size 5 1 (.slice b5 ((j - A) * 64 + 64) d5) ((j + 1 - A) * 64) (cellsOf (Mo.octets (Mo.part D A (j + 1 - A))))) := by
       unfold Hid
       rw [HPu.out, if_pos rfl, show (j + 1 - A) * 64 = (j - A) * 64 + 64 by omega]
       have e : cellsOf (Mo.octets (Mo.part D A (j - A)) ++ Mo.zeros) = cellsOf (Mo.octets (Mo.part D A (j - A))) ++ List.replicate 64 (.int .u8 0) := by
        unfold cellsOf Mo.zeros
        rw [List.map_append, List.map_replicate]
        rfl
       rw [e]
       exact ho5
      have HB5 : Hid (Below w.heap.size w w5) := HB.out.grown bg5 HBw.out (fun k hk => (HO.out.lt k hk).1)
      obtain ⟨v5, hv5⟩ : ∃ v5, v5 = Value.slice b5 ((j - A) * 64 + 64) d5 := ⟨_, rfl⟩
      rw [← hv5] at HRun HO5
      clear hr5 ho5 bg5 hv5 hX hXl h6
      go_wp2_with (at_builtin; refine Lib.wpList_append_run _ rfl _ _ _ _ rfl _ _ rfl rfl _ _ HRun.out ?_)
      go_roundw
      case rel => exact ⟨j + 1, by omega, by omega, by go_num, HO5, HB5⟩
      case measure => simp [intOf]; omega
    · have hx64 : X.length = 64 := by
       rcases h6 with h | h
       · rw [h] at hXl; exact absurd hXl.symm h0
       · exact h
      have e64 : xm = 64 := by omega
      subst e64
      have hXB := (q1Q hX).1
      cases x with
      | none => exact absurd (hXB.2.1 rfl) (by decide)
      | some ad =>
        obtain ⟨v', w5, hr5, k1, k2, -, k4⟩ := run_append_own_at (P := Try.prog) wr w.heap.size 26 26 5 i0 (.int .u8 0) 1 1 Try.underlying26 hi hz0 hz1' hz2 rfl (by decide) _ _ _ HO.out ad 64 xd (cellsOf X) (by rw [q1x, hx64]) (qBz hXB) (q4x X) (by unfold maxLen; omega) (by omega) HBw.out
        have HRun : Hid _ := hr5
        have HO5 : Hid (w5.ownsRow w.heap.size 5 1 v' ((j + 1 - A) * 64) (cellsOf (Mo.octets (Mo.part D A (j + 1 - A))))) := by
         unfold Hid
         rw [HPu.out, if_neg (fun e => by rw [e] at hx64; cases hx64), show (j + 1 - A) * 64 = (j - A) * 64 + 64 by omega, show cellsOf (Mo.octets (Mo.part D A (j - A)) ++ X) = cellsOf (Mo.octets (Mo.part D A (j - A))) ++ cellsOf X from by unfold cellsOf; rw [List.map_append]]
         exact k1
        have HB5 : Hid (Below w.heap.size w w5) := HB.out.grown k2 HBw.out (fun k hk => (HO.out.lt k hk).1)
        clear hr5 k1 k2 k4 hX hXl h6 hXB
        go_wp2_with (at_builtin; refine Lib.wpList_append_run _ rfl _ _ _ _ rfl _ _ rfl rfl _ _ HRun.out ?_)
        go_roundw
        case rel => exact ⟨j + 1, by omega, by omega, by go_num, HO5, HB5⟩
        case measure => simp [intOf]; omega
  · obtain rfl : j = M := by omega
    have HJ : Hid (j - A = N) := by have := HM.out; unfold Hid at *; omega
    rw [HJ.out] at HO
    have hlen : (Mo.octets (Mo.part D A N)).length = N * 64 := by
     have := HO.out.1
     rw [q1x] at this
     omega
    obtain ⟨q, r, hqr⟩ := own_slice1 HO.out
    subst hqr
    have HRd : Hid (rBytes.rd wr (fun b => w.heap.size ≤ b) [.slice q (N * 64) r] (Mo.octets (Mo.part D A N))) := q4q (n := N * 64) HO.out (by omega)
    go_wp2
    go_ret
    exact ⟨q, r, rfl, HRd.out, HB.out⟩
theorem OwnsQ.row1 {α : Type} {A : Rep α} (h1 : A.size = 1) {e : TypeId} {w : World} {base : Nat} {Q : Nat → Prop} {a : Option Addr} {n c : Nat} {l : List α} (h : OwnsQ A e w base Q (.slice a n c) l) (hn : l.length = n) (h0 : 0 < n) :
 ∃ (g : Nat) (cs : List Value), a = some ⟨g, 0, none⟩ ∧ (Value.slice a n c).ownBlock = some g ∧ Row w g e cs ∧ n ≤ cs.length := by
 obtain ⟨xs, ⟨k1, k2⟩, k3⟩ := h
 rcases k2 with ⟨e1, -⟩ | ⟨g, cap, cur, e1, e2, e3, e4, e5, e6, e7⟩
 · simp only [Value.slice.injEq] at e1
   omega
 · simp only [Value.slice.injEq] at e1
   obtain ⟨rfl, e8, rfl⟩ := e1
   have hcur : n ≤ cur.size := by rw [e6, h1]; omega
   exact ⟨g, cur.toList, rfl, rfl, ⟨by rw [Array.toArray_toList]; exact e3⟩, by simpa using hcur⟩
theorem qAQ {d : Dsk} {a : Nat} {p : Dsk} (h : a + p.length < d.length) (x : Sec) : (Mo.over d a p).set (a + p.length) x = Mo.over d a (p ++ [x]) := by
 have e : d.drop (a + p.length) = d[a + p.length] :: d.drop (a + p.length + 1) := List.drop_eq_getElem_cons h
 have hl : (d.take a ++ p).length = a + p.length := by rw [List.length_append, List.length_take]; omega
 unfold Mo.over
 rw [e, List.set_append_right _ _ (by rw [hl]; exact Nat.le_refl _), hl, Nat.sub_self, List.set_cons_zero, List.length_append, List.append_assoc, List.append_assoc, List.append_assoc]
 rfl
theorem qAx (d : Dsk) (a : Nat) : Mo.over d a [] = d := by unfold Mo.over; simp
end Go.Proofs.Ytoophkmnppoppaa
