/-
  Facts that the proof rests on, part 11. Conditions: those that each of them names.
-/
import Derived.Deep.DeepCutAuto
import Derived.Deep.RegionWith
import Derived.Test.YtoophkmnppoppaaM03
import Derived.Test.YtoophkmnppoppaaM06
import Derived.Test.YtoophkmnppoppaaM09
namespace Go.Proofs.Ytoophkmnppoppaa
set_option maxHeartbeats 16000000
open Go.RowKit
set_option linter.unusedVariables false
theorem Owns.elem {α β : Type} {A : Rep α} {C : Rep β} {e : TypeId} {base : Nat} {wr w5 : World} {v : Value} {l : List α} (O : Owns A e wr base v l) (hb : base ≤ wr.heap.size) {cs : List Value} {x : β} {P : Nat → Prop} (h : C.rd w5 P cs x) (hP : ∀ b, P b → wr.heap.size ≤ b) (o : Obj) :
 C.rd (w5.alloc o) (fun b => base ≤ b ∧ v.ownBlock ≠ some b) cs x :=
 C.weaken (Rep.below h ((Below.refl _ _).alloc (Nat.le_refl _) _)) (fun b hb _ => ⟨by have := hP b hb; omega, fun e => by have := O.row b e; have := hP b hb; omega⟩)
theorem q5q {w : World} {P : Nat → Prop} {a : Option Addr} {n c : Nat} {L : List (List UInt8)} (h : rSectors.rd w P [.slice a n c] L) : L.length = n ∧ n ≤ 5864062014634 := by
 obtain ⟨a', n', c', e, h1, _, _, h4, _⟩ := h
 simp only [List.cons.injEq, Value.slice.injEq, and_true] at e
 obtain ⟨rfl, rfl, rfl⟩ := e
 have h5 : n * 24 ≤ 140737488351232 := h4
 exact ⟨h1, by omega⟩
theorem copied_u (w : World) (a : Option Addr) (n c : Nat) (l : List UInt8) (hn : n ≤ 140737488355328) (hc : a = none → c = 0) (hB : IsB w a n l) :
 Calls Try.prog 61 #[.slice a n c] w fun e w' => ∃ b d, e = .returned (.slice b n d) ∧
  w'.ownsRow w.heap.size 5 1 (.slice b n d) n (cellsOf l) ∧ Below w.heap.size w w' := by
 obtain ⟨i0, hi, hz0, hz1, hz2⟩ := info_parts qFQ
 have hl := hB.1
 cases a with
 | none =>
   have hn0 := hB.2.1 rfl
   have hc0 := hc rfl
   subst hn0
   subst hc0
   have : l = [] := List.length_eq_zero_iff.1 hl
   subst this
   go_enter Try.func61, Try.ntmps61
   go_wp2_with (at_builtin; refine wpList_append_own_none rfl _ _ 26 rfl w.heap.size 5 i0 1 Try.underlying26 hi _ 0 [] rfl (World.ownsRow_nil w _ _ _) rfl ?_)
   go_ret
   exact ⟨none, 0, rfl, own_nil _ _, Below.refl _ _⟩
 | some x =>
   go_enter Try.func61, Try.ntmps61
   go_wp2_with (at_builtin; refine wpList_append_own _ rfl _ _ 26 rfl w.heap.size 5 i0 (.int .u8 0) 1 1 Try.underlying26 hi hz0 hz1 hz2 rfl (by decide) _ 0 [] rfl (World.ownsRow_nil w _ _ _) x n c (cellsOf l) rfl (by simp [cellsOf, hl]) (qBz hB) (q4x l) (by unfold maxLen; omega) (by omega) (Nat.le_refl _) ?_)
   intro v' w1 hown hgrow _
   try simp only [Nat.zero_add, List.nil_append] at hown
   obtain ⟨b, d, rfl, -⟩ := qHx hown
   go_wp2
   go_ret
   exact ⟨b, d, rfl, hown, (Below.refl _ _).grown hgrow (Nat.le_refl _) (fun k h => by cases h)⟩
theorem copied_r (w : World) (P : Nat → Prop) (a : Option Addr) (n c : Nat) (l : List UInt8) (h : rBytes.rd w P [.slice a n c] l) :
 Calls Try.prog 61 #[.slice a n c] w fun e w' => ∃ b d, e = .returned (.slice b n d) ∧ rBytes.rd w' (fun k => w.heap.size ≤ k) [.slice b n d] l ∧ Below w.heap.size w w' := by
 obtain ⟨h1, h2, h3, h4⟩ := q1Q h
 refine (copied_u w a n c l (by omega) h3 h1).mono ?_
 rintro e w' ⟨b, d, rfl, ho, hb⟩
 exact ⟨b, d, rfl, q4q ho h4, hb⟩
theorem qCQ (w : World) (P : Nat → Prop) (a : Option Addr) (n c : Nat) (L : List (List UInt8)) (h : rSectors.rd w P [.slice a n c] L) :
 Calls Try.prog 52 #[.slice a n c] w fun e w' => ∃ v, e = .returned v ∧ Owns rBytes 26 w' w.heap.size v L ∧ Below w.heap.size w w' := by
 have hl : L.length = n ∧ n ≤ 5864062014634 := by
  obtain ⟨a', n', c', e, h1, _, _, h4, _⟩ := h
  simp only [List.cons.injEq, Value.slice.injEq, and_true] at e
  obtain ⟨rfl, rfl, rfl⟩ := e
  have h5 : n * 24 ≤ 140737488351232 := h4
  exact ⟨h1, by omega⟩
 obtain ⟨hn, hn2⟩ := hl
 have HN : Hid _ := hn
 clear hn
 have H0 : Owns rBytes 26 w w.heap.size (.slice none 0 0) (L.take 0) := by rw [List.take_zero]; exact Owns.nil _ _ _ _
 go_enter Try.func52, Try.ntmps52
 go_wp2
 go_loopw [3, 4] (fun s i wr => ∃ (k : Nat) (M : List (List UInt8)), k ≤ n ∧ i = .int .i64 k ∧ M.length = k ∧ Hid (M = L.take k) ∧ Hid (Owns rBytes 26 wr w.heap.size s M) ∧ Below w.heap.size w wr) (fun _ i _ => n - (intOf i).toNat)
 case atStart => exact ⟨0, _, Nat.zero_le _, rfl, by simp, rfl, H0, Below.refl _ _⟩
 case round =>
  obtain ⟨k, M, hk, rfl, hml, HMk, O, bel⟩ := hrel
  clear H0
  by_cases hlt : k < n
  · have hAr := Rep.below h bel
    obtain ⟨g, off, rfl, -, hgl, hat⟩ := q5J hAr (by omega)
    have hkl : k < L.length := by rw [HN.out]; exact hlt
    obtain ⟨x, l, e, hx, hl, hcell⟩ := hat k hkl
    have HNX : Hid (M ++ [L[k]] = L.take (k + 1)) := by unfold Hid; rw [HMk.out, List.take_succ_eq_append_getElem hkl]
    have hz : w.heap.size ≤ wr.heap.size := bel.size
    have hok : Hid ((k + 1) * 24 ≤ 140737488355328 ∧ k + 1 ≤ maxLen) := ⟨by omega, by unfold maxLen; omega⟩
    clear hat hl hAr
    generalize L[k] = X at *
    go_wp2_with (first
     | (go_at_call 61
        refine (copied_r _ _ x l e _ hx).mono ?_
        rintro e w5 ⟨b5, d5, rfl, hr5, bb5⟩
        have hz5 : w.heap.size ≤ (w5.alloc (.cells #[.slice b5 l d5] 26)).heap.size := by have := bb5.size; simp only [World.size_alloc]; omega)
     | (at_builtin
        (refine qIz elem_sectors rfl _ _ rfl w.heap.size _ M rfl ((O.out.below bb5).below ((Below.refl _ _).alloc (Nat.le_refl _) _)) ⟨w5.heap.size, 0, none⟩ [.slice b5 l d5] X rfl (cell_one_new _ _ _) (O.out.elem hz hr5 (fun b hb => hb) _) (by rw [hml]; exact hok.out.1) (by rw [hml]; exact hok.out.2) hz5 ?_; intro b6 d6 w6 ho6 g6; rw [hml] at ho6)))
    go_roundw
    case rel => exact ⟨k + 1, M ++ [X], by omega, by go_num, by simp [hml], HNX, ho6, ((on bel bb5).alloc (by have := bb5.size; omega) _).grown g6 hz5 (fun k hk => (O.out.row k hk).1)⟩
    case measure => simp [intOf]; omega
  · obtain rfl : k = n := by omega
    go_wp2
    go_ret
    rw [List.take_of_length_le (by rw [HN.out]; exact Nat.le_refl _)] at HMk
    rw [HMk.out] at O
    exact ⟨_, rfl, O.out, bel⟩
theorem q4Q (w : World) (P : Nat → Prop) (a : Option Addr) (n c : Nat) (L : List (List UInt8)) (h : rSectors.rd w P [.slice a n c] L) :
 Calls Try.prog 52 #[.slice a n c] w fun e w' => ∃ b d, e = .returned (.slice b n d) ∧ rSectors.rd w' (fun k => w.heap.size ≤ k) [.slice b n d] L ∧ Below w.heap.size w w' := by
 refine Calls.mono (qCQ w P a n c L h) ?_
 rintro e w' ⟨v, rfl, O, bel⟩
 have hl := (q0Q h).1
 have hb := (q0Q h).2.2.2
 obtain ⟨a', c', e1, e2⟩ := Owns.rd (hs := by decide) O (by rw [hl]; exact hb)
 rw [hl] at e1 e2
 exact ⟨a', c', by rw [e1], e2, bel⟩
theorem elem_nmdD : q6q Try.prog 41 56 rNmd := qBQ (z := .agg #[.int .i64 0, .string ByteArray.empty]) Try.underlying41 (by kernel_rfl) rfl rfl rfl (by decide)
theorem sector_zero {l : List UInt8} (h : ∀ (j : Nat) (hj : j < l.length), l[j] = 0) : Mo.sector l = [] := by
 unfold Mo.sector
 rw [if_pos]
 unfold Mo.allZ
 rw [List.all_eq_true]
 intro x hx
 obtain ⟨j, hj, rfl⟩ := List.mem_iff_getElem.1 hx
 simp [h j hj]
theorem sector_some {l : List UInt8} {j : Nat} (hj : j < l.length) (h : ¬ l[j] = 0) : Mo.sector l = l := by
 unfold Mo.sector
 rw [if_neg]
 unfold Mo.allZ
 rw [List.all_eq_true]
 intro hx
 exact h (by simpa using hx l[j] (List.getElem_mem hj))
set_option maxRecDepth 20000 in
theorem qGz (w : World) (P : Nat → Prop) (a : Option Addr) (n c : Nat) (l : List UInt8) (h : rBytes.rd w P [.slice a n c] l) :
 Calls Try.prog 53 #[.slice a n c] w fun e w' => ∃ b m d, e = .returned (.slice b m d) ∧ rBytes.rd w' (fun k => w.heap.size ≤ k) [.slice b m d] (Mo.sector l) ∧ Below w.heap.size w w' := by
 have HN : Hid (l.length = n) := (q0Q h).1
 have hn : n ≤ 140737488351232 := by have : n * 1 ≤ 140737488351232 := (q0Q h).2.2.2; omega
 have HR : Hid _ := h
 clear h
 go_enter Try.func53, Try.ntmps53
 go_wp2
 go_loopw [3] (fun i wr => ∃ k : Nat, k ≤ n ∧ i = .int .i64 k ∧ Hid (∀ (j : Nat) (hj : j < l.length), j < k → l[j] = 0) ∧ Below w.heap.size w wr) (fun i _ => n - (intOf i).toNat)
 case atStart => exact ⟨0, Nat.zero_le _, rfl, (fun j _ h => by omega), Below.refl _ _⟩
 case round =>
  obtain ⟨k, hk, rfl, HK, bel⟩ := hrel
  have B : Hid _ := bel
  have HRr : Hid (rBytes.rd wr P [.slice a n c] l) := Rep.below HR.out bel
  by_cases hlt : k < n
  · have hkl : k < l.length := by rw [HN.out]; exact hlt
    obtain ⟨g, off, rfl, -, -, hat⟩ := q8q HRr.out (by omega)
    have c0 := hat k hkl
    have hkz : (k : Int) < (n : Int) := by omega
    have HSome : Hid (¬ l[k] = 0 → Mo.sector l = l) := fun h => sector_some hkl h
    have HNx : Hid (l[k] = 0 → ∀ (j : Nat) (hj : j < l.length), j < k + 1 → l[j] = 0) := fun h j hj hjk => by
     by_cases e : j = k
     · subst e; exact h
     · exact HK.out j hj (by omega)
    obtain ⟨x, hx⟩ : ∃ x, x = l[k] := ⟨_, rfl⟩
    rw [← hx] at c0 HSome HNx
    clear hx hat bel
    by_cases h0 : x = 0
    · have HN2 : Hid _ := HNx.out h0
      subst h0
      clear HNx HSome
      go_wp2
      go_roundw
      case rel => exact ⟨k + 1, by omega, by go_num, HN2, B.out⟩
      case measure => simp [intOf]; omega
    · have HS : Hid (Mo.sector l = l) := HSome.out h0
      have hz : ¬ (x.toNat : Int) = 0 := fun e => h0 (UInt8.toNat_inj.1 (by rw [show (0 : UInt8).toNat = 0 from rfl]; omega))
      clear h0 HNx HSome
      go_wp2_with fail
      refine (copied_r _ _ _ _ _ l HRr.out).mono ?_
      rintro e w5 ⟨b5, d5, rfl, hr5, bb5⟩
      have HR5 : Hid _ := hr5
      have B5 : Hid _ := on B.out bb5
      have HW : Hid (w.heap.size ≤ wr.heap.size) := B.out.size
      clear hr5 bb5
      go_wp2
      go_ret
      exact ⟨b5, n, d5, rfl, by rw [HS.out]; exact rBytes.weaken HR5.out (fun b hb _ => Nat.le_trans HW.out hb), B5.out⟩
  · obtain rfl : n = k := by omega
    have HS : Hid (Mo.sector l = []) := sector_zero (fun j hj => HK.out j hj (by rw [← HN.out]; exact hj))
    clear bel
    go_wp2
    go_ret
    exact ⟨none, 0, 0, rfl, by rw [HS.out]; exact q0j _ _ _ _ (fun _ => rfl), B.out⟩
set_option maxRecDepth 20000 in
theorem named_u (w : World) (P : Nat → Prop) (a : Option Addr) (n c : Nat) (l : List Snp) (h : rSnps.rd w P [.slice a n c] l) (hn9 : n ≤ 1000000) :
 Calls Try.prog 30 #[.slice a n c] w fun e w' => ∃ b d, e = .returned (.slice b n d) ∧ rNmds.rd w' (fun k => w.heap.size ≤ k) [.slice b n d] (Mo.named l) ∧ Below w.heap.size w w' := by
 have HN : Hid (l.length = n) := (q0Q h).1
 have HR : Hid _ := h
 clear h
 go_enter Try.func30, Try.ntmps30
 go_wp2
 go_loopw [3, 8] (fun o i wr => ∃ k : Nat, k ≤ n ∧ i = .int .i64 k ∧ Hid (Owns rNmd 55 wr w.heap.size o (Mo.named (l.take k))) ∧ Below w.heap.size w wr) (fun _ i _ => n - (intOf i).toNat)
 case atStart => exact ⟨0, Nat.zero_le _, rfl, Owns.nil _ _ _ _, Below.refl _ _⟩
 case round =>
  obtain ⟨k, hk, rfl, HO, bel⟩ := hrel
  have B : Hid _ := bel
  by_cases hlt : k < n
  · have hkl : k < l.length := by rw [HN.out]; exact hlt
    obtain ⟨g, off, rfl, -, -, hat⟩ := q1J (Rep.below HR.out bel) (by omega)
    obtain ⟨x, m, d, -, -, c0, c1, c2, hi, hs⟩ := hat k hkl
    have HTk : Hid (Mo.named (l.take (k + 1)) = Mo.named (l.take k) ++ [(l[k].1, l[k].2.1)]) := by unfold Hid Mo.named; rw [List.take_succ_eq_append_getElem hkl, List.map_append]; rfl
    have hlen : (Mo.named (l.take k)).length = k := by unfold Mo.named; rw [List.length_map, List.length_take]; omega
    have hkz : (k : Int) < (n : Int) := by omega
    generalize l[k].1 = id at *
    generalize l[k].2.1 = nm at *
    obtain ⟨w4, hw4, V4, b4, z4⟩ := q0q wr 66 [.int .i64 id, .string nm, .slice x m d]
    obtain ⟨w5, hw5, V5, b5, z5⟩ := q0q w4 55 [.int .i64 id, .string nm]
    have d0 := V4.cell (j := 0) rfl
    have d1 := V4.cell (j := 1) rfl
    have hs5 : w.heap.size ≤ w5.heap.size := Nat.le_trans (Nat.le_trans bel.size b4.size) b5.size
    obtain ⟨v6, w6, hr6, ho6, g6, b6, d6, hv6⟩ := q4Z (ty := 36) elem_nmd ((HO.out.below b4).below b5) (ad := ⟨w4.heap.size, 0, none⟩) (c := [.int .i64 id, .string nm]) (x := (id, nm)) (fun j u hj => by rw [Addr.add_lit, Nat.zero_add]; exact V5.cell hj) ⟨[.int .i64 id], [.string nm], rfl, ⟨rfl, hi⟩, rfl, hs⟩ (by rw [hlen]; show _ * 24 ≤ _; omega) (by rw [hlen]; unfold maxLen; omega) hs5
    have HR6 : Hid _ := hr6
    have HO6 : Hid (Owns rNmd 55 w6 w.heap.size v6 (Mo.named (l.take (k + 1)))) := by unfold Hid; rw [HTk.out]; exact ho6
    have B6 : Hid (Below w.heap.size w w6) := (on (on bel b4) b5).grown g6 hs5 (fun j hj => (HO.out.row j hj).1)
    clear hr6 ho6 g6 hv6 hs5 V4 V5 z4 z5 b4 b5 hat hi hs bel hlen
    go_wp2_with (at_builtin; refine Lib.wpList_append_run _ rfl _ _ _ _ rfl _ _ rfl rfl _ _ HR6.out ?_)
    go_roundw
    case rel => exact ⟨k + 1, by omega, by go_num, HO6, B6.out⟩
    case measure => simp [intOf]; omega
  · obtain rfl : n = k := by omega
    have hlen : (Mo.named (l.take n)).length = n := by unfold Mo.named; rw [List.length_map, List.length_take, HN.out, Nat.min_self]
    obtain ⟨a9, c9, hv9, hr9⟩ := Owns.rd (hs := by decide) HO.out (by rw [hlen]; show _ * 24 ≤ _; omega)
    rw [hlen] at hv9 hr9
    rw [List.take_of_length_le (by rw [HN.out]; exact Nat.le_refl _)] at hr9
    subst hv9
    have HR9 : Hid _ := hr9
    clear hr9 HO hlen bel
    go_wp2
    go_ret
    exact ⟨a9, c9, rfl, HR9.out, B.out⟩
set_option maxRecDepth 20000 in
theorem qGx (w : World) (P : Nat → Prop) (a b : Option Addr) (n c m d : Nat) (next : Int) (l : List Snp) (h : rSnps.rd w P [.slice b m d] l) (hm9 : m ≤ 1000000) :
 Calls Try.prog 33 #[.agg #[.slice a n c, .slice b m d, .int .i64 next]] w fun e w' => ∃ q r, e = .returned (.slice q m r) ∧ rNmds.rd w' (fun k => w.heap.size ≤ k) [.slice q m r] (Mo.named l) ∧ Below w.heap.size w w' := by
 have HN : Hid (l.length = m) := (q0Q h).1
 obtain ⟨w0, hw0, V0, b0, z0⟩ := q0q w 25 [.slice a n c, .slice b m d, .int .i64 next]
 have HR : Hid (rSnps.rd w0 P [.slice b m d] l) := Rep.below h b0
 have HV0 : Hid _ := V0
 have B0 : Hid _ := b0
 have HV0l : Hid (w.heap.size < w0.heap.size) := V0.lt
 have q1 := V0.cell (j := 1) rfl
 clear h V0 b0 z0
 go_enter Try.func33, Try.ntmps33
 go_wp2
 clear q1
 go_loopw [3, 4] (fun o i wr => ∃ k : Nat, k ≤ m ∧ i = .int .i64 k ∧ Hid (Owns rNmd 56 wr w0.heap.size o (Mo.named (l.take k))) ∧ Below w0.heap.size w0 wr) (fun _ i _ => m - (intOf i).toNat)
 case atStart => exact ⟨0, Nat.zero_le _, rfl, Owns.nil _ _ _ _, Below.refl _ _⟩
 case round =>
  obtain ⟨k, hk, rfl, HO, bel⟩ := hrel
  have B : Hid _ := bel
  have q1 := (HV0.out.below bel).cell (j := 1) rfl
  by_cases hlt : k < m
  · have hkl : k < l.length := by rw [HN.out]; exact hlt
    obtain ⟨g, off, rfl, -, hgl, hat⟩ := q1J HR.out (by omega)
    obtain ⟨x, mm, dd, -, -, c0, c1, c2, hi, hs⟩ := hat k hkl
    have HTk : Hid (Mo.named (l.take (k + 1)) = Mo.named (l.take k) ++ [(l[k].1, l[k].2.1)]) := by unfold Hid Mo.named; rw [List.take_succ_eq_append_getElem hkl, List.map_append]; rfl
    have hlen : (Mo.named (l.take k)).length = k := by unfold Mo.named; rw [List.length_map, List.length_take]; omega
    have hkz : (k : Int) < (m : Int) := by omega
    generalize l[k].1 = id at *
    generalize l[k].2.1 = nm at *
    have HSee : Hid (∀ w', Below w0.heap.size w0 w' → w'.cell? ⟨w.heap.size, 1, none⟩ = some (.slice (some ⟨g, off, none⟩) m d) ∧ w'.cell? ⟨g, off + k * 3, none⟩ = some (.int .i64 id) ∧ w'.cell? ⟨g, off + k * 3 + 1, none⟩ = some (.string nm)) := fun w' hb => ⟨(HV0.out.below hb).cell (j := 1) rfl, (hb.cell (p := ⟨g, off + k * 3, none⟩) hgl).trans c0, (hb.cell (p := ⟨g, off + k * 3 + 1, none⟩) hgl).trans c1⟩
    have S0 := HSee.out _ B.out.drew
    have BA : Hid (Below wr.heap.size wr (wr.drew.alloc (.cells #[.int .i64 id, .string nm] 56))) := (Below.refl wr.heap.size wr).drew.alloc (Nat.le_refl _) _
    have hs5 : w0.heap.size ≤ (wr.drew.alloc (.cells #[.int .i64 id, .string nm] 56)).heap.size := Nat.le_trans bel.size BA.out.size
    have V5 : Row (wr.drew.alloc (.cells #[.int .i64 id, .string nm] 56)) wr.heap.size 56 [.int .i64 id, .string nm] := q9j wr.drew 56 [.int .i64 id, .string nm]
    obtain ⟨v6, w6, hr6, ho6, g6, b6, d6, hv6⟩ := q4Z (ty := 41) elem_nmdD (HO.out.below BA.out) (ad := ⟨wr.heap.size, 0, none⟩) (c := [.int .i64 id, .string nm]) (x := (id, nm)) (fun j u hj => by rw [Addr.add_lit, Nat.zero_add]; exact V5.cell hj) ⟨[.int .i64 id], [.string nm], rfl, ⟨rfl, hi⟩, rfl, hs⟩ (by rw [hlen]; show _ * 24 ≤ _; omega) (by rw [hlen]; unfold maxLen; omega) hs5
    have HR6 : Hid _ := hr6
    have HO6 : Hid (Owns rNmd 56 w6 w0.heap.size v6 (Mo.named (l.take (k + 1)))) := by unfold Hid; rw [HTk.out]; exact ho6
    have B6 : Hid (Below w0.heap.size w0 w6) := (on bel BA.out).grown g6 hs5 (fun j hj => (HO.out.row j hj).1)
    clear hr6 ho6 g6 hv6 hs5 V5 hat hi hs bel hlen c0 c1 c2
    go_wp2_with fail
    refine wp_region_held_drew (S := (fun w' : World => w'.cell? ⟨w.heap.size, 1, none⟩ = some (.slice (some ⟨g, off, none⟩) m d) ∧ w'.cell? ⟨g, off + k * 3, none⟩ = some (.int .i64 id) ∧ w'.cell? ⟨g, off + k * 3 + 1, none⟩ = some (.string nm))) (by kernel_rfl) (S0) (fun hH => ?_)
    refine tkM 0 _ rfl rfl ?_; simp only [sz, ss]
    refine tkM 1 _ rfl rfl ?_; simp only [sz, ss]
    refine tkM 2 _ rfl rfl ?_; simp only [sz, ss]
    refine tkM 3 _ rfl rfl ?_; simp only [sz, ss]
    refine tkM 4 _ rfl rfl ?_; simp only [sz, ss]
    refine tkM 5 _ rfl rfl ?_; simp only [sz, ss]
    refine tkM 6 _ rfl rfl ?_; simp only [sz, ss]
    refine tkM 7 _ rfl rfl ?_; simp only [sz, ss]
    refine tkM 8 _ rfl rfl ?_; simp only [sz, ss]
    refine tkM 9 _ rfl rfl ?_; simp only [sz, ss]
    refine tkM 10 _ rfl rfl ?_; simp only [sz, ss]
    refine tkM 11 _ rfl rfl ?_; simp only [sz, ss]
    refine tkM 12 _ rfl rfl ?_; simp only [sz, ss]
    refine tkM 13 _ rfl rfl ?_; simp only [sz, ss]
    refine r1L 14 rfl fun K hK => ?_
    · go_simp
      have S2 := HSee.out _ (on B.out BA.out)
      refine hK.out _ _ ?_ (fun hH => ?_)
      · try dsimp only
        first | exact S3 | exact S2
      clear hK K
      refine r1L 15 rfl fun K hK => ?_
      · refine held_append rfl (by rfl) _ _ _ rfl _ _ _ rfl rfl HR6.out ?_
        simp only [sz, ss]
        have S3 := HSee.out _ B6.out
        refine hK.out _ _ ?_ (fun hH => ?_)
        · try dsimp only
          first | exact S3 | exact S2
        clear hK K
        refine tkM 16 _ rfl rfl ?_; simp only [sz, ss]
        refine wpAnyH_done (by kernel_rfl) ?_ _
        clear hH
        go_wp2
        go_roundw
        case rel => exact ⟨k + 1, by omega, by go_num, HO6, B6.out⟩
        case measure => simp [intOf]; omega
  · obtain rfl : m = k := by omega
    have hlen : (Mo.named (l.take m)).length = m := by unfold Mo.named; rw [List.length_map, List.length_take, HN.out, Nat.min_self]
    obtain ⟨a9, c9, hv9, hr9⟩ := Owns.rd (hs := by decide) HO.out (by rw [hlen]; show _ * 24 ≤ _; omega)
    rw [hlen] at hv9 hr9
    rw [List.take_of_length_le (by rw [HN.out]; exact Nat.le_refl _)] at hr9
    subst hv9
    have HR9 : Hid _ := hr9
    have HBF : Hid _ := on B0.out bel
    clear hr9 HO hlen bel
    go_wp2
    go_ret
    exact ⟨a9, c9, rfl, rNmds.weaken HR9.out (fun b hb _ => Nat.le_trans B0.out.size hb), HBF.out⟩
theorem q7j (w : World) (P : Nat → Prop) : rSectors.rd w P [.slice none 0 0] [] := ⟨none, 0, 0, rfl, rfl, Nat.le_refl _, (fun _ => rfl), by decide, fun x hx => by cases hx⟩
theorem q8x (w : World) (P : Nat → Prop) : rSnps.rd w P [.slice none 0 0] [] := ⟨none, 0, 0, rfl, rfl, Nat.le_refl _, (fun _ => rfl), by decide, fun x hx => by cases hx⟩
theorem qGZ {w : World} {P : Nat → Prop} {g n : Nat} (hg : P g) (V : Row w g 26 (List.replicate n (.slice none 0 0))) (hn : n * 24 ≤ 140737488351232) : rSectors.rd w P [.slice (some ⟨g, 0, none⟩) n n] (List.replicate n []) := by
 refine ⟨_, n, n, rfl, by rw [List.length_replicate], Nat.le_refl _, (fun h => by cases h), hn, fun x hx j hj => ?_⟩
 simp only [Option.some.injEq] at hx
 subst hx
 rw [List.length_replicate] at hj
 refine ⟨hg, [.slice none 0 0], by rw [List.getElem_replicate]; exact q0j _ _ _ _ (fun _ => rfl), fun k v hv => ?_⟩
 match k, hv with
 | 0, hv =>
   simp at hv
   subst hv
   rw [Addr.add_lit, Nat.zero_add, Nat.add_zero, show j * rBytes.size = j from by show j * 1 = j; omega]
   exact V.cell (by rw [List.getElem?_replicate, if_pos hj])
set_option maxRecDepth 20000 in
theorem new_u (w : World) (n : Int) (h1 : I64 n) :
 Calls Try.prog 20 #[.int .i64 n] w fun e w' => ∃ cs : List Value, e = .returned (.tuple #[.agg cs.toArray, .int .i64 (Mo.newE n)]) ∧ rSta.rd w' (fun b => w.heap.size ≤ b) cs (Mo.newS n) ∧ Below w.heap.size w w' := by
 obtain ⟨w0, hw0, V0, b0, z0⟩ := q0q w 31 [.slice none 0 0, .slice none 0 0, .int .i64 0]
 have q0 := V0.cell (j := 0) rfl
 have q1 := V0.cell (j := 1) rfl
 have q2 := V0.cell (j := 2) rfl
 have f0 := V0.frozen 0
 have f1 := V0.frozen 1
 have f2 := V0.frozen 2
 have HV0 : Hid _ := V0
 have B0 : Hid _ := b0
 have HZ : Hid (w0.heap.size = w.heap.size + 1) := z0
 obtain ⟨n1, n2⟩ := h1
 clear V0 b0 z0
 by_cases hn : 0 ≤ n ∧ n ≤ 65536
 · have HE : Hid (Mo.newE n = 0) := if_pos hn
   have HSt : Hid (Mo.newS n = (List.replicate n.toNat [], [], 1)) := if_pos hn
   have HS : Hid (decide (0 ≤ n ∧ n ≤ 65536) = true) := decide_eq_true hn
   obtain ⟨k, rfl⟩ : ∃ k : Nat, n = (k : Int) := ⟨n.toNat, by omega⟩
   have hk : k ≤ 65536 := by omega
   have HTn : Hid (((k : Int)).toNat = k) := Int.toNat_natCast k
   have hge : ¬ (k : Int) < 0 := by omega
   have hle : ¬ (65536 : Int) < (k : Int) := by omega
   clear hn n1 n2
   go_enter Try.func20, Try.ntmps20
   go_wp2_with first
    | (go_at_call 39; refine (q8J _ _ true HS.out).mono ?_; rintro e w9 ⟨rfl, rfl⟩)
    | (at_make; refine qBq _ rfl _ _ 22 rfl 26 (.slice none 0 0) 24 Try.underlying22 qCz rfl k _ rfl rfl rfl (by omega) (by omega) ?_; intro w1 HR1 b1 z1; have V1 := HV0.out.below b1; have p0 := V1.cell (j := 0) rfl; have p1 := V1.cell (j := 1) rfl; have p2 := V1.cell (j := 2) rfl; have g0 := V1.frozen 0; have g1 := V1.frozen 1; have g2 := V1.frozen 2)
   have V3 := ((V1.set 0 (.slice (some ⟨w0.heap.size, 0, none⟩) k k)).set 1 (.slice none 0 0)).set 2 (.int .i64 1)
   refine bodyPost_ret (qCJ rfl rfl V3 Try.underlying31 rfl (by kernel_rfl)) rfl ⟨_, by rw [HE.out]; rfl, ?_, ?_⟩
   · rw [HSt.out, HTn.out]
     refine ⟨[.slice (some ⟨w0.heap.size, 0, none⟩) k k], [.slice none 0 0, .int .i64 1], rfl, ?_, [.slice none 0 0], [.int .i64 1], rfl, q8x _ _, rfl, by show -9223372036854775808 ≤ (1 : Int) ∧ (1 : Int) ≤ 9223372036854775807; decide⟩
     refine qGZ B0.out.size ?_ (by omega)
     have hz := HZ.out
     unfold Hid at hz
     exact ((HR1.out.keep (heap_setCell_other _ _ _ _ (by show w0.heap.size ≠ w.heap.size; omega))).keep (heap_setCell_other _ _ _ _ (by show w0.heap.size ≠ w.heap.size; omega))).keep (heap_setCell_other _ _ _ _ (by show w0.heap.size ≠ w.heap.size; omega))
   · exact (((on B0.out b1).setCell (p := ⟨w.heap.size, 0, none⟩) (Nat.le_refl _) _).setCell (p := ⟨w.heap.size, 1, none⟩) (Nat.le_refl _) _).setCell (p := ⟨w.heap.size, 2, none⟩) (Nat.le_refl _) _
 · have HE : Hid (Mo.newE n = 4) := if_neg hn
   have HSt : Hid (Mo.newS n = ([], [], 0)) := if_neg hn
   have HS : Hid (decide (0 ≤ n ∧ n ≤ 65536) = false) := decide_eq_false hn
   have V3 := ((HV0.out.set 0 (.slice none 0 0)).set 1 (.slice none 0 0)).set 2 (.int .i64 0)
   have HV3 : Hid _ := V3
   clear V3
   clear hn
   go_enter Try.func20, Try.ntmps20
   go_wp2_with (go_at_call 39; refine (q8J _ _ false HS.out).mono ?_; rintro e w9 ⟨rfl, rfl⟩)
   refine bodyPost_ret (qCJ rfl rfl HV3.out Try.underlying31 rfl (by kernel_rfl)) rfl ⟨_, by rw [HE.out]; rfl, ?_, ?_⟩
   · rw [HSt.out]
     exact ⟨[.slice none 0 0], [.slice none 0 0, .int .i64 0], rfl, q7j _ _, [.slice none 0 0], [.int .i64 0], rfl, q8x _ _, rfl, by show -9223372036854775808 ≤ (0 : Int) ∧ (0 : Int) ≤ 9223372036854775807; decide⟩
   · exact ((B0.out.setCell (p := ⟨w.heap.size, 0, none⟩) (Nat.le_refl _) _).setCell (p := ⟨w.heap.size, 1, none⟩) (Nat.le_refl _) _).setCell (p := ⟨w.heap.size, 2, none⟩) (Nat.le_refl _) _
theorem okDisk_step {d : Dsk} {k : Nat} (hk : k < d.length) (h : (d.take k).all Mo.okSec = true) : (d.take (k + 1)).all Mo.okSec = Mo.okSec d[k] := by
 rw [List.take_succ_eq_append_getElem hk, List.all_append, h]
 simp
theorem make64 (w : World) : ∃ w5, Hid ((Instr.makeSlice 26 (.int .i64 64) (.int .i64 64)).run Try.prog w = .ok (.slice (some ⟨w.heap.size, 0, none⟩) 64 64) w5) ∧ IsB w5 (some ⟨w.heap.size, 0, none⟩) 64 Mo.zeros ∧ Below w.heap.size w w5 := by
 refine ⟨_, run_make_row' 26 5 (.int .u8 0) 1 Try.underlying26 qFQ rfl .i64 .i64 64 (by decide) (by decide) w, ?_, (Below.refl _ _).alloc (Nat.le_refl _) _⟩
 have V : Row (w.alloc (.cells (madeCells #[.int .u8 0] 64) 5)) w.heap.size 5 (List.replicate 64 (.int .u8 0)) := by
  have h := q9j w 5 (List.replicate 64 (.int .u8 0))
  rw [← toList_madeCells_one, Array.toArray_toList] at h
  rw [← toList_madeCells_one]
  exact h
 refine ⟨rfl, (fun h => by cases h), fun x hx j hj => ?_⟩
 simp only [Option.some.injEq] at hx
 subst hx
 rw [Addr.add_lit, Nat.zero_add]
 have hj' : j < 64 := hj
 refine V.cell ?_
 rw [List.getElem?_replicate, if_pos hj', show Mo.zeros[j] = 0 from List.getElem_replicate _]
 rfl
theorem zeros_eq {X : Sec} (h : X.length = 64) : (X == Mo.zeros) = Mo.allZ X := by
 rw [Bool.eq_iff_iff, beq_iff_eq]
 constructor
 · intro e
   rw [e]
   decide
 · intro e
   exact Mo.zeros_of h e
set_option maxRecDepth 20000 in
theorem q3j (w : World) (P : Nat → Prop) (a : Option Addr) (n c : Nat) (d : Dsk) (hD : rSectors.rd w P [.slice a n c] d) (bb : Bool) (hbb : Mo.okDisk d = bb) :
 Calls Try.prog 37 #[.slice a n c] w fun e w' => e = .returned (.bool bb) ∧ Below w.heap.size w w' := by
 have HN : Hid (d.length = n) := (q0Q hD).1
 have HR : Hid _ := hD
 have HBB : Hid (bb = (decide (d.length ≤ 65536) && d.all Mo.okSec)) := hbb.symm
 have hn0 : n ≤ 140737488351232 := by have : n * 24 ≤ 140737488351232 := (q0Q hD).2.2.2; omega
 clear hD hbb
 by_cases hn : n ≤ 65536
 · have HAll : Hid (bb = d.all Mo.okSec) := by unfold Hid; rw [HBB.out, decide_eq_true (by rw [HN.out]; exact hn)]; rfl
   have hnz : ¬ (65536 : Int) < (n : Int) := by omega
   clear hn0
   go_enter Try.func37, Try.ntmps37
   go_wp2
   go_loopw [3] (fun i wr => ∃ k : Nat, k ≤ n ∧ i = .int .i64 k ∧ Hid ((d.take k).all Mo.okSec = true) ∧ Below w.heap.size w wr) (fun i _ => n - (intOf i).toNat)
   case atStart => exact ⟨0, Nat.zero_le _, rfl, rfl, Below.refl _ _⟩
   case round =>
    obtain ⟨k, hk, rfl, HK, bel⟩ := hrel
    have B : Hid _ := bel
    by_cases hlt : k < n
    · have hkl : k < d.length := by rw [HN.out]; exact hlt
      obtain ⟨g, off, rfl, -, hgl, hat⟩ := q9Q (Rep.below HR.out bel) (by omega)
      obtain ⟨x, m, d', hx, hl, c0⟩ := hat k hkl
      have hkz : (k : Int) < (n : Int) := by omega
      have HSt : Hid _ := okDisk_step hkl HK.out
      have HBad : Hid (Mo.okSec d[k] = false → bb = false) := fun h => by
       rw [HAll.out, Bool.eq_false_iff]
       intro hall
       rw [List.all_eq_true] at hall
       rw [hall _ (List.getElem_mem hkl)] at h
       cases h
      obtain ⟨X, hX⟩ : ∃ X, X = d[k] := ⟨_, rfl⟩
      rw [← hX] at hx hl HSt HBad
      have HXl : Hid (X.length = m) := hl
      have hm : m ≤ 140737488351232 := by have : m * 1 ≤ 140737488351232 := (q0Q hx).2.2.2; omega
      clear hat hX bel hl
      by_cases h0 : m = 0
      · have HG : Hid ((d.take (k + 1)).all Mo.okSec = true) := by unfold Hid; rw [HSt.out]; unfold Mo.okSec; rw [decide_eq_true (by rw [HXl.out]; exact h0)]; rfl
        have hz : (m : Int) = 0 := by omega
        clear HSt HBad
        go_wp2
        go_roundw
        case rel => exact ⟨k + 1, by omega, by go_num, HG, B.out⟩
        case measure => simp [intOf]; omega
      · have hz : ¬ (m : Int) = 0 := by omega
        have HOk : Hid (Mo.okSec X = (decide (m = 64) && !Mo.allZ X)) := by unfold Hid Mo.okSec; rw [HXl.out, decide_eq_false h0]; rfl
        by_cases h64 : m = 64
        · have HOk2 : Hid (Mo.okSec X = !Mo.allZ X) := by unfold Hid; rw [HOk.out, decide_eq_true h64]; rfl
          subst h64
          have hcv : ∀ w', Below wr.heap.size wr w' → (convert 26 9 (.slice x 64 d')).run Try.prog w' = .ok (.string ⟨X.toArray⟩) w' := fun w' hb => q2J w' x 64 d' X (q1Q (Rep.below hx hb)).1
          have HCv : Hid _ := hcv
          have HSee : Hid (∀ w', Below wr.heap.size wr w' → w'.cell? ⟨g, off + k, none⟩ = some (.slice x 64 d') ∧ (convert 26 9 (.slice x 64 d')).run Try.prog w' = .ok (.string ⟨X.toArray⟩) w') := fun w' hb => ⟨(hb.cell (p := ⟨g, off + k, none⟩) hgl).trans c0, HCv.out w' hb⟩
          have S0 := HSee.out _ (Below.refl _ wr).drew
          obtain ⟨w5, HMk, HV5, b5⟩ := make64 wr.drew
          have B5 : Hid (Below wr.heap.size wr w5) := (Below.refl wr.heap.size wr).drew.trans b5
          have HCz : Hid ((convert 26 9 (.slice (some ⟨wr.heap.size, 0, none⟩) 64 64)).run Try.prog w5 = .ok (.string ⟨Mo.zeros.toArray⟩) w5) := q2J w5 _ 64 64 Mo.zeros HV5
          have S5 := HSee.out _ B5.out
          clear hcv b5 HV5 hx
          cases hzz : Mo.allZ X with
          | true =>
            have HF : Hid (false = bb) := (HBad.out (by rw [HOk2.out, hzz]; rfl)).symm
            have hEq : (X == Mo.zeros) = true := by rw [zeros_eq HXl.out, hzz]
            clear hzz HSt HBad
            go_wp2_with fail
            refine wp_region_held_drew (S := (fun w' : World => w'.cell? ⟨g, off + k, none⟩ = some (.slice x 64 d') ∧ (convert 26 9 (.slice x 64 d')).run Try.prog w' = .ok (.string ⟨X.toArray⟩) w')) (by kernel_rfl) (S0) (fun hH => ?_)
            refine tkM 0 _ rfl rfl ?_; simp only [sz, ss]
            refine tkM 1 _ rfl rfl ?_; simp only [sz, ss]
            refine tkM 2 _ rfl rfl ?_; simp only [sz, ss]
            refine tkM 3 _ rfl rfl ?_; simp only [sz, ss]
            refine tkM 4 _ rfl rfl ?_; simp only [sz, ss]
            refine tkM 5 _ rfl rfl ?_; simp only [sz, ss]
            refine tkM 6 _ rfl rfl ?_; simp only [sz, ss]
            refine tkM 7 _ rfl rfl ?_; simp only [sz, ss]
            refine tkM 8 _ rfl rfl ?_; simp only [sz, ss]
            refine tkM 9 _ rfl rfl ?_; simp only [sz, ss]
            refine tkM 10 _ rfl rfl ?_; simp only [sz, ss]
            refine tkM 11 _ rfl rfl ?_; simp only [sz, ss]
            refine r1L 12 rfl fun K hK => ?_
            · go_simp
              rw [HMk.out]
              go_simp
              refine hK.out _ _ ?_ (fun hH => ?_)
              · try dsimp only
                exact S5
              clear hK K
              refine r1L 13 rfl fun K hK => ?_
              · go_simp
                rw [HCz.out]
                go_simp
                refine hK.out _ _ ?_ (fun hH => ?_)
                · try dsimp only
                  exact S5
                clear hK K
                refine tkM 14 _ rfl rfl ?_; simp only [sz, ss]
                refine tkM 15 _ rfl rfl ?_; simp only [sz, ss]
                refine wpAnyH_done (by kernel_rfl) ?_ _
                clear hH
                go_wp2
                go_ret
                exact ⟨q5Z HF.out, on B.out B5.out⟩
          | false =>
            have HG : Hid ((d.take (k + 1)).all Mo.okSec = true) := by unfold Hid; rw [HSt.out, HOk2.out, hzz]; rfl
            have hEq : (X == Mo.zeros) = false := by rw [zeros_eq HXl.out, hzz]
            clear hzz HSt HBad
            go_wp2_with fail
            refine wp_region_held_drew (S := (fun w' : World => w'.cell? ⟨g, off + k, none⟩ = some (.slice x 64 d') ∧ (convert 26 9 (.slice x 64 d')).run Try.prog w' = .ok (.string ⟨X.toArray⟩) w')) (by kernel_rfl) (S0) (fun hH => ?_)
            refine tkM 0 _ rfl rfl ?_; simp only [sz, ss]
            refine tkM 1 _ rfl rfl ?_; simp only [sz, ss]
            refine tkM 2 _ rfl rfl ?_; simp only [sz, ss]
            refine tkM 3 _ rfl rfl ?_; simp only [sz, ss]
            refine tkM 4 _ rfl rfl ?_; simp only [sz, ss]
            refine tkM 5 _ rfl rfl ?_; simp only [sz, ss]
            refine tkM 6 _ rfl rfl ?_; simp only [sz, ss]
            refine tkM 7 _ rfl rfl ?_; simp only [sz, ss]
            refine tkM 8 _ rfl rfl ?_; simp only [sz, ss]
            refine tkM 9 _ rfl rfl ?_; simp only [sz, ss]
            refine tkM 10 _ rfl rfl ?_; simp only [sz, ss]
            refine tkM 11 _ rfl rfl ?_; simp only [sz, ss]
            refine r1L 12 rfl fun K hK => ?_
            · go_simp
              rw [HMk.out]
              go_simp
              refine hK.out _ _ ?_ (fun hH => ?_)
              · try dsimp only
                exact S5
              clear hK K
              refine r1L 13 rfl fun K hK => ?_
              · go_simp
                rw [HCz.out]
                go_simp
                refine hK.out _ _ ?_ (fun hH => ?_)
                · try dsimp only
                  exact S5
                clear hK K
                refine tkM 14 _ rfl rfl ?_; simp only [sz, ss]
                refine tkM 15 _ rfl rfl ?_; simp only [sz, ss]
                refine wpAnyH_done (by kernel_rfl) ?_ _
                clear hH
                go_wp2
                go_roundw
                case rel => exact ⟨k + 1, by omega, by go_num, HG, on B.out B5.out⟩
                case measure => simp [intOf]; omega
        · have HF : Hid (false = bb) := (HBad.out (by rw [HOk.out, decide_eq_false h64]; rfl)).symm
          have h64z : ¬ (m : Int) = 64 := by omega
          have h64b : ((m : Int) == 64) = false := beq_eq_false_iff_ne.2 h64z
          have h64n : ((m : Int) != 64) = true := by simp [bne, h64b]
          have h64d : decide ((m : Int) = 64) = false := decide_eq_false h64z
          clear HSt HBad hx
          go_wp2_with fail
          go_quiet (fail)
          go_wp2
          go_ret
          exact ⟨q5Z HF.out, q3x B.out _⟩
    · obtain rfl : n = k := by omega
      have HF : Hid (true = bb) := by
       have h := HK.out
       unfold Hid at h
       rw [List.take_of_length_le (by rw [HN.out]; exact Nat.le_refl _)] at h
       unfold Hid
       rw [HAll.out, h]
      clear bel
      go_wp2
      go_ret
      exact ⟨q5Z HF.out, B.out⟩
 · have HF : Hid (false = bb) := by unfold Hid; rw [HBB.out, decide_eq_false (by rw [HN.out]; exact hn)]; rfl
   have hnz : (65536 : Int) < (n : Int) := by omega
   go_enter Try.func37, Try.ntmps37
   go_wp2
   go_ret
   exact ⟨q5Z HF.out, Below.refl _ _⟩
theorem qJj {α : Type} {p : α → Bool} {l : List α} {k : Nat} (hk : k < l.length) (h : p l[k] = true) : l.any p = true := List.any_eq_true.2 ⟨l[k], List.getElem_mem hk, h⟩
theorem qJz {α : Type} {p : α → Bool} {l : List α} (h : ∀ (j : Nat) (hj : j < l.length), p l[j] = false) : l.any p = false := by
 rw [List.any_eq_false]
 intro x hx
 obtain ⟨j, hj, rfl⟩ := List.mem_iff_getElem.1 hx
 rw [h j hj]
 decide
set_option maxRecDepth 20000 in
theorem docMay_u (w : World) (P : Nat → Prop) (a : Option Addr) (n c : Nat) (l : List Nmd) (hL : rNmds.rd w P [.slice a n c] l) (size next : Int) (h1 : I64 size) (x : Opn) (xa : Option Addr) (xn xc : Nat) (hX : rOpn.rd w P [.int .i64 x.1, .int .i64 x.2.1, .int .i64 x.2.2.1, .int .i64 x.2.2.2.1, .string x.2.2.2.2.1, .slice xa xn xc] x) :
 Calls Try.prog 23 #[.int .i64 size, .slice a n c, .int .i64 next, .agg #[.int .i64 x.1, .int .i64 x.2.1, .int .i64 x.2.2.1, .int .i64 x.2.2.2.1, .string x.2.2.2.2.1, .slice xa xn xc]] w fun e w' => e = .returned (.int .i64 (Mo.mayE size l next x)) ∧ Below w.heap.size w w' := by
 obtain ⟨a', n', c', e, hD, -, h2, h3, h4, hs⟩ := q1X hX
 simp only [List.cons.injEq, Value.slice.injEq, and_true, true_and] at e
 obtain ⟨rfl, rfl, rfl⟩ := e
 obtain ⟨E, hE⟩ : ∃ E, E = Mo.mayE size l next x := ⟨_, rfl⟩
 rw [← hE]
 have HE : Hid _ := hE
 have hlen : x.2.2.2.2.2.length = xn := (q0Q hD).1
 have hxn : xn ≤ 140737488355328 := by have : xn * 1 ≤ 140737488351232 := (q0Q hD).2.2.2; omega
 obtain ⟨w0, hw0, V0, b0, z0⟩ := q0q w 28 [.int .i64 x.1, .int .i64 x.2.1, .int .i64 x.2.2.1, .int .i64 x.2.2.2.1, .string x.2.2.2.2.1, .slice xa xn xc]
 have B0 : Hid _ := b0
 have HL0 : Hid (rNmds.rd w0 P [.slice a n c] l) := Rep.below hL b0
 have HN : Hid (l.length = n) := (q0Q hL).1
 have hn : n ≤ 5864062014634 := by have : n * 24 ≤ 140737488351232 := (q0Q hL).2.2.2; omega
 have d0 := V0.cell (j := 0) rfl
 have d1 := V0.cell (j := 1) rfl
 have d2 := V0.cell (j := 2) rfl
 have d3 := V0.cell (j := 3) rfl
 have d4 := V0.cell (j := 4) rfl
 have d5 := V0.cell (j := 5) rfl
 have HV0 : Hid _ := V0
 obtain ⟨K, at', N, id, nm, dt⟩ := x
 simp only at h2 h3 h4 hs hlen d0 d1 d2 d3 d4 d5 hX HV0 ⊢
 have HLen : Hid (dt.length = xn) := hlen
 have HS : Hid (nm.size ≤ maxLen) := hs
 have HI2 : Hid (I64 at') := h2
 have HI3 : Hid (I64 N) := h3
 have HI1 : Hid (I64 size) := h1
 clear hE hL V0 z0 b0 hD hX hlen hs h1 h2 h3 h4
 by_cases q1 : K = 1
 · subst q1
   have HE1 : Hid (E = Mo.writeE size at' xn) := by unfold Hid; rw [HE.out]; show Mo.writeE size at' dt.length = _; rw [HLen.out]
   obtain ⟨f1, f2⟩ := qHz xn
   obtain ⟨q, hq⟩ : ∃ q, q = xn / 64 := ⟨_, rfl⟩
   obtain ⟨m, hm⟩ : ∃ m, m = xn % 64 := ⟨_, rfl⟩
   rw [← hq] at f1
   rw [← hm] at f2
   have HQ : Hid (xn = q * 64 + m) := by unfold Hid; omega
   have hq2 : q ≤ 2199023255552 := by omega
   have HQ1 : Hid (q = xn / 64) := hq
   have HM1 : Hid (m = xn % 64) := hm
   clear hq hm d3 d4
   have HOne : Hid (xn = 0 ∨ m ≠ 0 ∨ 64 < q → 1 = E) := fun h => by
    rw [HE1.out]; unfold Mo.writeE
    rw [if_pos (by have h2 := HQ.out; have h3 := HQ1.out; have h4 := HM1.out; unfold Hid at h2 h3 h4; omega)]
   by_cases q1 : xn = 0
   · have q1z : (xn : Int) = 0 := by omega
     have HR : Hid (1 = E) := HOne.out (.inl q1)
     clear f1 f2
     subst q1
     go_enter Try.func23, Try.ntmps23
     go_wp2
     go_ret
     exact ⟨q0z HR.out, B0.out⟩
   · have q1z : ¬ (xn : Int) = 0 := by omega
     by_cases q2 : m = 0
     · have f3 : (xn : Int) % 64 = 0 := by omega
       clear f2
       by_cases q3 : 64 < q
       · have q3z : (64 : Int) < (q : Int) := by omega
         have HR : Hid (1 = E) := HOne.out (.inr (.inr q3))
         go_enter Try.func23, Try.ntmps23
         go_wp2
         go_ret
         exact ⟨q0z HR.out, B0.out⟩
       · have q3z : ¬ (64 : Int) < (q : Int) := by omega
         have HV : Hid (E = if Mo.fits size at' (q : Int) then 0 else 4) := by
          unfold Hid
          rw [HE1.out]; unfold Mo.writeE
          have h2 := HQ.out; have h3 := HQ1.out; have h4 := HM1.out; unfold Hid at h2 h3 h4
          rw [if_neg (by omega), ← h3]
         by_cases q4 : Mo.fits size at' (q : Int)
         · have HR : Hid (0 = E) := by unfold Hid; rw [HV.out, if_pos q4]
           have HF : Hid (decide (Mo.fits size at' (q : Int)) = true) := decide_eq_true q4
           clear q4
           go_enter Try.func23, Try.ntmps23
           go_wp2_with (go_at_call 45; refine Calls.mono (q5z _ _ _ HI1.out HI2.out (by constructor <;> omega) _ true HF.out) ?_; rintro e w1 ⟨rfl, rfl⟩)
           go_ret
           exact ⟨q0z HR.out, B0.out⟩
         · have HR : Hid (4 = E) := by unfold Hid; rw [HV.out, if_neg q4]
           have HF : Hid (decide (Mo.fits size at' (q : Int)) = false) := decide_eq_false q4
           clear q4
           go_enter Try.func23, Try.ntmps23
           go_wp2_with (go_at_call 45; refine Calls.mono (q5z _ _ _ HI1.out HI2.out (by constructor <;> omega) _ false HF.out) ?_; rintro e w1 ⟨rfl, rfl⟩)
           go_ret
           exact ⟨q0z HR.out, B0.out⟩
     · have q2z : ¬ (m : Int) = 0 := by omega
       have HR : Hid (1 = E) := HOne.out (.inr (.inl q2))
       go_enter Try.func23, Try.ntmps23
       go_wp2
       go_ret
       exact ⟨q0z HR.out, B0.out⟩
 by_cases q2 : K = 2
 · subst q2
   have HE2 : Hid (E = if Mo.fits size at' N then (if 64 < N then 5 else 0) else 4) := by unfold Hid; rw [HE.out]; rfl
   clear d3 d4 d5
   by_cases q4 : Mo.fits size at' N
   · have HF : Hid (decide (Mo.fits size at' N) = true) := decide_eq_true q4
     have HV : Hid (E = if 64 < N then 5 else 0) := by unfold Hid; rw [HE2.out, if_pos q4]
     clear q4
     by_cases q5 : 64 < N
     · have HR : Hid (5 = E) := by unfold Hid; rw [HV.out, if_pos q5]
       go_enter Try.func23, Try.ntmps23
       go_wp2_with (go_at_call 45; refine Calls.mono (q5z _ _ _ HI1.out HI2.out HI3.out _ true HF.out) ?_; rintro e w1 ⟨rfl, rfl⟩)
       go_ret
       exact ⟨q0z HR.out, B0.out⟩
     · have HR : Hid (0 = E) := by unfold Hid; rw [HV.out, if_neg q5]
       go_enter Try.func23, Try.ntmps23
       go_wp2_with (go_at_call 45; refine Calls.mono (q5z _ _ _ HI1.out HI2.out HI3.out _ true HF.out) ?_; rintro e w1 ⟨rfl, rfl⟩)
       go_ret
       exact ⟨q0z HR.out, B0.out⟩
   · have HF : Hid (decide (Mo.fits size at' N) = false) := decide_eq_false q4
     have HR : Hid (4 = E) := by unfold Hid; rw [HE2.out, if_neg q4]
     clear q4
     go_enter Try.func23, Try.ntmps23
     go_wp2_with (go_at_call 45; refine Calls.mono (q5z _ _ _ HI1.out HI2.out HI3.out _ false HF.out) ?_; rintro e w1 ⟨rfl, rfl⟩)
     go_ret
     exact ⟨q0z HR.out, B0.out⟩
 by_cases q3 : K = 3
 · subst q3
   have HE2 : Hid (E = if Mo.fits size at' N then (if 64 < N then 5 else 0) else 4) := by unfold Hid; rw [HE.out]; rfl
   clear d3 d4 d5
   by_cases q4 : Mo.fits size at' N
   · have HF : Hid (decide (Mo.fits size at' N) = true) := decide_eq_true q4
     have HV : Hid (E = if 64 < N then 5 else 0) := by unfold Hid; rw [HE2.out, if_pos q4]
     clear q4
     by_cases q5 : 64 < N
     · have HR : Hid (5 = E) := by unfold Hid; rw [HV.out, if_pos q5]
       go_enter Try.func23, Try.ntmps23
       go_wp2_with (go_at_call 45; refine Calls.mono (q5z _ _ _ HI1.out HI2.out HI3.out _ true HF.out) ?_; rintro e w1 ⟨rfl, rfl⟩)
       go_ret
       exact ⟨q0z HR.out, B0.out⟩
     · have HR : Hid (0 = E) := by unfold Hid; rw [HV.out, if_neg q5]
       go_enter Try.func23, Try.ntmps23
       go_wp2_with (go_at_call 45; refine Calls.mono (q5z _ _ _ HI1.out HI2.out HI3.out _ true HF.out) ?_; rintro e w1 ⟨rfl, rfl⟩)
       go_ret
       exact ⟨q0z HR.out, B0.out⟩
   · have HF : Hid (decide (Mo.fits size at' N) = false) := decide_eq_false q4
     have HR : Hid (4 = E) := by unfold Hid; rw [HE2.out, if_neg q4]
     clear q4
     go_enter Try.func23, Try.ntmps23
     go_wp2_with (go_at_call 45; refine Calls.mono (q5z _ _ _ HI1.out HI2.out HI3.out _ false HF.out) ?_; rintro e w1 ⟨rfl, rfl⟩)
     go_ret
     exact ⟨q0z HR.out, B0.out⟩
 by_cases q4 : K = 4
 · subst q4
   have HE4 : Hid (E = if Mo.okName nm then (if l.any (fun y => decide (y.2 = nm)) then 6 else if 8 ≤ l.length ∨ 255 ≤ next then 3 else 0) else 1) := HE.out
   have hsz : nm.size ≤ 9223372036854775807 := by have := HS.out; unfold Hid maxLen at this; omega
   clear d1 d2 d3 d5
   by_cases e1 : 1 ≤ nm.size
   · have e1z : ¬ (nm.size : Int) < 1 := by omega
     by_cases e2 : nm.size ≤ 16
     · have e2z : ¬ (16 : Int) < (nm.size : Int) := by omega
       have HV : Hid (E = if l.any (fun y => decide (y.2 = nm)) then 6 else if 8 ≤ n ∨ 255 ≤ next then 3 else 0) := by unfold Hid; rw [HE4.out, show Mo.okName nm = true from by simp [Mo.okName, e1, e2], HN.out]; rfl
       clear hsz e1 e2
       go_enter Try.func23, Try.ntmps23
       go_wp2
       clear d4 d0
       go_loopw [10] (fun i wr => ∃ k : Nat, k ≤ n ∧ i = .int .i64 k ∧ Hid (∀ (j : Nat) (hj : j < l.length), j < k → decide (l[j].2 = nm) = false) ∧ Below w0.heap.size w0 wr) (fun i _ => n - (intOf i).toNat)
       case atStart => exact ⟨0, Nat.zero_le _, rfl, (fun j _ h => by omega), Below.refl _ _⟩
       case round =>
        obtain ⟨k, hk, rfl, HK, bel⟩ := hrel
        have BR : Hid _ := bel
        have d4 := (HV0.out.below bel).cell (j := 4) rfl
        by_cases hlt : k < n
        · have hkl : k < l.length := by rw [HN.out]; exact hlt
          obtain ⟨g, off, rfl, -, -, hat⟩ := q8Q (Rep.below HL0.out bel) (by omega)
          obtain ⟨c0, c1, -, -⟩ := hat k hkl
          have hkz : (k : Int) < (n : Int) := by omega
          have HHere : Hid (l[k].2 = nm → 6 = E) := fun h => by rw [HV.out, qJj hkl (p := fun y => decide (y.2 = nm)) (decide_eq_true h)]; rfl
          have HNx : Hid (¬ l[k].2 = nm → ∀ (j : Nat) (hj : j < l.length), j < k + 1 → decide (l[j].2 = nm) = false) := fun h j hj hjk => by
           by_cases e : j = k
           · subst e; exact decide_eq_false h
           · exact HK.out j hj (by omega)
          obtain ⟨Y, hY⟩ : ∃ Y, Y = l[k].2 := ⟨_, rfl⟩
          rw [← hY] at c1 HHere HNx
          clear hY hat bel c0
          by_cases he : Y = nm
          · have HR : Hid (6 = E) := HHere.out he
            subst he
            clear HHere HNx
            go_wp2_with fail
            go_quiet (fail)
            go_wp2
            go_ret
            exact ⟨q0z HR.out, q3x (on B0.out BR.out) _⟩
          · have HN2 : Hid _ := HNx.out he
            have heq : (Y.toList == nm.toList) = false := by rw [eqB]; exact decide_eq_false he
            clear HHere HNx he
            go_wp2_with fail
            go_quiet (fail)
            go_wp2
            go_roundw
            case rel => exact ⟨k + 1, by omega, by go_num, HN2, q3x BR.out _⟩
            case measure => simp [intOf]; omega
        · obtain rfl : n = k := by omega
          have HV2 : Hid (E = if 8 ≤ n ∨ 255 ≤ next then 3 else 0) := by unfold Hid; rw [HV.out, qJz (p := fun y => decide (y.2 = nm)) (fun j hj => HK.out j hj (by rw [← HN.out]; exact hj))]; rfl
          clear bel
          by_cases h8 : 8 ≤ n
          · have h8z : (8 : Int) ≤ (n : Int) := by omega
            have HR : Hid (3 = E) := by unfold Hid; rw [HV2.out, if_pos (.inl h8)]
            go_wp2
            go_ret
            exact ⟨q0z HR.out, on B0.out BR.out⟩
          · have h8z : ¬ (8 : Int) ≤ (n : Int) := by omega
            by_cases hx : 255 ≤ next
            · have HR : Hid (3 = E) := by unfold Hid; rw [HV2.out, if_pos (.inr hx)]
              go_wp2
              go_ret
              exact ⟨q0z HR.out, on B0.out BR.out⟩
            · have HR : Hid (0 = E) := by unfold Hid; rw [HV2.out, if_neg (by omega)]
              go_wp2
              go_ret
              exact ⟨q0z HR.out, on B0.out BR.out⟩
     · have e2z : (16 : Int) < (nm.size : Int) := by omega
       have HR : Hid (1 = E) := by unfold Hid; rw [HE4.out, show Mo.okName nm = false from by simp [Mo.okName, e1, e2]]; rfl
       go_enter Try.func23, Try.ntmps23
       go_wp2
       go_ret
       exact ⟨q0z HR.out, B0.out⟩
   · have e1z : (nm.size : Int) < 1 := by omega
     have HR : Hid (1 = E) := by unfold Hid; rw [HE4.out, show Mo.okName nm = false from by simp [Mo.okName, e1]]; rfl
     go_enter Try.func23, Try.ntmps23
     go_wp2
     go_ret
     exact ⟨q0z HR.out, B0.out⟩
 by_cases q5 : K = 5
 · subst q5
   have HV : Hid (E = if l.any (fun y => decide (y.1 = id)) then 0 else 71) := by unfold Hid; rw [HE.out]; rfl
   clear d1 d2 d4 d5
   go_enter Try.func23, Try.ntmps23
   go_wp2
   clear d3 d0
   go_loopw [11] (fun i wr => ∃ k : Nat, k ≤ n ∧ i = .int .i64 k ∧ Hid (∀ (j : Nat) (hj : j < l.length), j < k → decide (l[j].1 = id) = false) ∧ Below w0.heap.size w0 wr) (fun i _ => n - (intOf i).toNat)
   case atStart => exact ⟨0, Nat.zero_le _, rfl, (fun j _ h => by omega), Below.refl _ _⟩
   case round =>
    obtain ⟨k, hk, rfl, HK, bel⟩ := hrel
    have BR : Hid _ := bel
    have d3 := (HV0.out.below bel).cell (j := 3) rfl
    by_cases hlt : k < n
    · have hkl : k < l.length := by rw [HN.out]; exact hlt
      obtain ⟨g, off, rfl, -, -, hat⟩ := q8Q (Rep.below HL0.out bel) (by omega)
      obtain ⟨c0, c1, -, -⟩ := hat k hkl
      have hkz : (k : Int) < (n : Int) := by omega
      have HHere : Hid (l[k].1 = id → 0 = E) := fun h => by rw [HV.out, qJj hkl (p := fun y => decide (y.1 = id)) (decide_eq_true h)]; rfl
      have HNx : Hid (¬ l[k].1 = id → ∀ (j : Nat) (hj : j < l.length), j < k + 1 → decide (l[j].1 = id) = false) := fun h j hj hjk => by
       by_cases e : j = k
       · subst e; exact decide_eq_false h
       · exact HK.out j hj (by omega)
      obtain ⟨Y, hY⟩ : ∃ Y, Y = l[k].1 := ⟨_, rfl⟩
      rw [← hY] at c0 HHere HNx
      clear hY hat bel c1
      by_cases he : Y = id
      · have HR : Hid (0 = E) := HHere.out he
        subst he
        clear HHere HNx
        go_wp2_with fail
        go_quiet (fail)
        go_wp2
        go_ret
        exact ⟨q0z HR.out, q3x (on B0.out BR.out) _⟩
      · have HN2 : Hid _ := HNx.out he
        have heq : (Y == id) = false := beq_eq_false_iff_ne.2 he
        have hed : decide (Y = id) = false := decide_eq_false he
        clear HHere HNx
        go_wp2_with fail
        go_quiet (fail)
        go_wp2
        go_roundw
        case rel => exact ⟨k + 1, by omega, by go_num, HN2, q3x BR.out _⟩
        case measure => simp [intOf]; omega
    · obtain rfl : n = k := by omega
      have HR : Hid (71 = E) := by unfold Hid; rw [HV.out, qJz (p := fun y => decide (y.1 = id)) (fun j hj => HK.out j hj (by rw [← HN.out]; exact hj))]; rfl
      clear bel
      go_wp2
      go_ret
      exact ⟨q0z HR.out, on B0.out BR.out⟩
 by_cases q6 : K = 6
 · subst q6
   have HV : Hid (E = if l.any (fun y => decide (y.1 = id)) then 0 else 71) := by unfold Hid; rw [HE.out]; rfl
   clear d1 d2 d4 d5
   go_enter Try.func23, Try.ntmps23
   go_wp2
   clear d3 d0
   go_loopw [11] (fun i wr => ∃ k : Nat, k ≤ n ∧ i = .int .i64 k ∧ Hid (∀ (j : Nat) (hj : j < l.length), j < k → decide (l[j].1 = id) = false) ∧ Below w0.heap.size w0 wr) (fun i _ => n - (intOf i).toNat)
   case atStart => exact ⟨0, Nat.zero_le _, rfl, (fun j _ h => by omega), Below.refl _ _⟩
   case round =>
    obtain ⟨k, hk, rfl, HK, bel⟩ := hrel
    have BR : Hid _ := bel
    have d3 := (HV0.out.below bel).cell (j := 3) rfl
    by_cases hlt : k < n
    · have hkl : k < l.length := by rw [HN.out]; exact hlt
      obtain ⟨g, off, rfl, -, -, hat⟩ := q8Q (Rep.below HL0.out bel) (by omega)
      obtain ⟨c0, c1, -, -⟩ := hat k hkl
      have hkz : (k : Int) < (n : Int) := by omega
      have HHere : Hid (l[k].1 = id → 0 = E) := fun h => by rw [HV.out, qJj hkl (p := fun y => decide (y.1 = id)) (decide_eq_true h)]; rfl
      have HNx : Hid (¬ l[k].1 = id → ∀ (j : Nat) (hj : j < l.length), j < k + 1 → decide (l[j].1 = id) = false) := fun h j hj hjk => by
       by_cases e : j = k
       · subst e; exact decide_eq_false h
       · exact HK.out j hj (by omega)
      obtain ⟨Y, hY⟩ : ∃ Y, Y = l[k].1 := ⟨_, rfl⟩
      rw [← hY] at c0 HHere HNx
      clear hY hat bel c1
      by_cases he : Y = id
      · have HR : Hid (0 = E) := HHere.out he
        subst he
        clear HHere HNx
        go_wp2_with fail
        go_quiet (fail)
        go_wp2
        go_ret
        exact ⟨q0z HR.out, q3x (on B0.out BR.out) _⟩
      · have HN2 : Hid _ := HNx.out he
        have heq : (Y == id) = false := beq_eq_false_iff_ne.2 he
        have hed : decide (Y = id) = false := decide_eq_false he
        clear HHere HNx
        go_wp2_with fail
        go_quiet (fail)
        go_wp2
        go_roundw
        case rel => exact ⟨k + 1, by omega, by go_num, HN2, q3x BR.out _⟩
        case measure => simp [intOf]; omega
    · obtain rfl : n = k := by omega
      have HR : Hid (71 = E) := by unfold Hid; rw [HV.out, qJz (p := fun y => decide (y.1 = id)) (fun j hj => HK.out j hj (by rw [← HN.out]; exact hj))]; rfl
      clear bel
      go_wp2
      go_ret
      exact ⟨q0z HR.out, on B0.out BR.out⟩
 by_cases q7 : K = 7
 · subst q7
   have HR : Hid (0 = E) := by unfold Hid; rw [HE.out]; rfl
   go_enter Try.func23, Try.ntmps23
   go_wp2
   go_ret
   exact ⟨q0z HR.out, B0.out⟩
 by_cases q8 : K = 8
 · subst q8
   have HV : Hid (E = if 0 ≤ N ∧ N ≤ 65536 then 0 else 4) := by unfold Hid; rw [HE.out]; rfl
   by_cases hN : N < 0
   · have HR : Hid (4 = E) := by unfold Hid; rw [HV.out, if_neg (by omega)]
     go_enter Try.func23, Try.ntmps23
     go_wp2
     go_ret
     exact ⟨q0z HR.out, B0.out⟩
   · by_cases hM : 65536 < N
     · have HR : Hid (4 = E) := by unfold Hid; rw [HV.out, if_neg (by omega)]
       go_enter Try.func23, Try.ntmps23
       go_wp2
       go_ret
       exact ⟨q0z HR.out, B0.out⟩
     · have HR : Hid (0 = E) := by unfold Hid; rw [HV.out, if_pos (by omega)]
       go_enter Try.func23, Try.ntmps23
       go_wp2
       go_ret
       exact ⟨q0z HR.out, B0.out⟩
 have HR : Hid (22 = E) := by
  unfold Hid
  rw [HE.out]
  unfold Mo.mayE Mo.what
  simp only
  rw [if_neg q1, if_neg (by omega), if_neg q4, if_neg (by omega), if_neg q7, if_neg q8]
 go_enter Try.func23, Try.ntmps23
 go_wp2
 go_ret
 exact ⟨q0z HR.out, B0.out⟩
end Go.Proofs.Ytoophkmnppoppaa
