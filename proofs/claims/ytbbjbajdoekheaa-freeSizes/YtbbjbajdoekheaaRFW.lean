/-
  The document's own: what is left of free spans. Conditions: those that each contract names.
-/
import Derived.Test.YtbbjbajdoekheaaFBase
namespace Go.Proofs.Ytbbjbajdoekheaa
open Go.RowKit
set_option linter.unusedVariables false

theorem step_append_run {w : World} {ops : Array Oper} {o : Oper} {a : Go.Act} {K : Go.Act → World → Prop} {Q : Exit → Go.Act → World → Prop} {E : Prop} {T : TypeId} (hgd : o.guard = none) (s x : Operand)
    (ho : o.op = .call { callee := .builtin .append, args := #[s, x], argTypes := #[T, T] }) (v u : Value) (hs : a.eval s = v) (hx : a.eval x = u) (v' : Value) (w'' : World) (hr : (Builtin.append_ #[T, T] o.type #[v, u]).run Try.prog w = .ok v' w'')
    (h : K (a.put o.dst v') w'') : if Region.wanted o (yielded ops a.tmps) = true then Oper.wp Try.prog o a w K Q else E := by
  have hw : Region.wanted o (yielded ops a.tmps) = true := by simp [Region.wanted, hgd]
  rw [if_pos hw]
  unfold Oper.wp execOp
  simp only [ho, resolve, invoke, builtin, Sem.run_bind, Sem.run_pure, Result.andThen_ok, List.map_toArray, List.map_cons, List.map_nil, hs, hx, hr]
  exact h

/-- One span appended to a list of the call's own: what the builtin does, all facts at once. -/
theorem append_spn (w : World) (base : Nat) (v : Value) (l : List Spn) (O : OwnS 26 w base v l) (y : Spn) (hy : In2 y) (hl : l.length ≤ 900000) (hb : base ≤ w.heap.size) :
    ∃ a' n' c' w', (Builtin.append_ #[22, 22] 22 #[v, .slice (some ⟨w.heap.size, 0, none⟩) 1 1]).run Try.prog (w.alloc (.cells #[.int .i64 y.1, .int .i64 y.2] 26)) = .ok (.slice a' n' c') w' ∧ OwnS 26 w' base (.slice a' n' c') (l ++ [y]) ∧ Below base w w' ∧ Grew w w' v (.slice a' n' c') := by
  have ba : Below w.heap.size w (w.alloc (.cells #[.int .i64 y.1, .int .i64 y.2] 26)) := (Below.refl _ _).alloc (Nat.le_refl _) _
  have hoa : OwnS 26 (w.alloc (.cells #[.int .i64 y.1, .int .i64 y.2] 26)) base v l := O.below ba
  have hsz : base ≤ (w.alloc (.cells #[.int .i64 y.1, .int .i64 y.2] 26)).heap.size := Nat.le_trans hb (by simp)
  obtain ⟨v1, w8, hr1, ho1, g1⟩ := run_append_spns hoa ((OwnS.lit 26 w base hb y hy).rd (show (1 : Nat) ≤ 8796093021952 by decide)) (by omega) hsz 22
  obtain ⟨a6, c6, rfl, -, -⟩ := ho1.slice
  exact ⟨a6, _, c6, w8, hr1, ho1, (ba.mono hb).trans (hoa.base_below hsz g1), Grew.pre ba g1⟩

theorem Fr.without_next {l : List Spn} {k : Nat} (hk : k < l.length) (x : Spn) : Fr.without (l.take (k + 1)) x = Fr.without (l.take k) x ++ Fr.cutSpan x l[k] := by
  unfold Fr.without
  rw [List.take_succ_eq_append_getElem hk, List.flatMap_append]
  simp

theorem Fr.cut_len (x y : Spn) : (Fr.cutSpan x y).length ≤ 2 := by
  unfold Fr.cutSpan
  split
  · simp
  · rw [List.length_append]
    split <;> split <;> simp

theorem Fr.without_len : ∀ (l : List Spn) (x : Spn), (Fr.without l x).length ≤ 2 * l.length
  | [], x => by simp [Fr.without]
  | y :: l, x => by
    have h1 := Fr.without_len l x
    have h2 := Fr.cut_len x y
    rw [show Fr.without (y :: l) x = Fr.cutSpan x y ++ Fr.without l x from rfl, List.length_append, List.length_cons]
    omega

set_option maxRecDepth 20000 in
set_option maxHeartbeats 4000000 in
theorem without_u (w : World) (P : Nat → Prop) (a : Option Addr) (n c : Nat) (l : List Spn) (hL : rSpns.rd w P [.slice a n c] l) (hM : ∀ y ∈ l, Fr.Mid y) (hn : n ≤ 100000) (x : Spn) (hx : Fr.Mid x) :
    Calls Try.prog 45 #[.slice a n c, .agg #[.int .i64 x.1, .int .i64 x.2]] w fun e w' => ∃ v, e = .returned v ∧ OwnS 26 w' w.heap.size v (Fr.without l x) ∧ Below w.heap.size w w' := by
  obtain ⟨hl, hnc, hnil, hb⟩ := rList_len hL
  have HL : Hid (l.length = n) := hl
  have HR : Hid _ := hL
  have HM : Hid _ := hM
  unfold Fr.Mid at hx
  obtain ⟨q1, q2, q3⟩ := hx
  obtain ⟨w1, hw1, V1, b1, z1⟩ := boxedRow w 26 [.int .i64 x.1, .int .i64 x.2]
  have HV1 : Hid (Row w1 w.heap.size 26 [.int .i64 x.1, .int .i64 x.2]) := V1
  have B1 : Hid (Below w.heap.size w w1) := b1
  have hmx := max_fact 3
  have hmn := min_fact 3
  have HBs : Hid (w.heap.size ≤ w1.heap.size) := b1.size
  clear hl hnc hnil hb hL hM V1 b1 z1
  go_enter Try.func45, Try.ntmps45
  go_wp2
  go_loopw [5, 6] (fun o i wr => ∃ k : Nat, k ≤ n ∧ i = .int .i64 k ∧ Hid (OwnS 26 wr w1.heap.size o (Fr.without (l.take k) x)) ∧ Below w1.heap.size w1 wr) (fun _ i _ => n - (intOf i).toNat)
  case atStart => exact ⟨0, Nat.zero_le _, rfl, OwnS.nil _ _ _, Below.refl _ _⟩
  case round =>
    obtain ⟨k, hk, rfl, HO, bel⟩ := hrel
    by_cases hlt : k < n
    · have hkl : k < l.length := by rw [HL.out]; exact hlt
      obtain ⟨g, off, rfl, -, hgl, hat⟩ := rSpns_at (Rep.below HR.out B1.out) (by omega)
      obtain ⟨c0, c1, -⟩ := hat k hkl
      have hm := HM.out l[k] (List.getElem_mem hkl)
      have HNx : Hid _ := Fr.without_next hkl x
      have hlen : (Fr.without (l.take k) x).length ≤ 2 * k := Nat.le_trans (Fr.without_len _ _) (by rw [List.length_take]; omega)
      obtain ⟨y, hX⟩ : ∃ y, y = l[k] := ⟨_, rfl⟩
      rw [← hX] at c0 c1 hm HNx
      have SK : Hid (∀ {w' : World}, Below w1.heap.size w1 w' → w'.cell? ⟨w.heap.size, 0, none⟩ = some (.int .i64 x.1) ∧ w'.cell? ⟨w.heap.size, 1, none⟩ = some (.int .i64 x.2) ∧ w'.cell? ⟨g, off + k * 2, none⟩ = some (.int .i64 y.1) ∧ w'.cell? ⟨g, off + k * 2 + 1, none⟩ = some (.int .i64 y.2)) :=
        fun b => ⟨((HV1.out).keep (b.block _ HV1.out.lt)).two.1, ((HV1.out).keep (b.block _ HV1.out.lt)).two.2, (b.cell (p := ⟨g, off + k * 2, none⟩) hgl).trans c0, (b.cell (p := ⟨g, off + k * 2 + 1, none⟩) hgl).trans c1⟩
      unfold Fr.Mid at hm
      obtain ⟨m1, m2, m3⟩ := hm
      have hkz : (k : Int) < (n : Int) := by omega
      obtain ⟨s0, s1, s2, s3⟩ := SK.out bel
      have HB : Hid (Below w1.heap.size w1 wr) := bel
      have HBz : Hid (w1.heap.size ≤ wr.heap.size) := bel.size
      obtain ⟨lo, hlo⟩ : ∃ lo, max y.1 x.1 = lo := ⟨_, rfl⟩
      obtain ⟨hi, hhi⟩ : ∃ hi, min (y.1 + y.2) (x.1 + x.2) = hi := ⟨_, rfl⟩
      have HCut : Hid (Fr.cutSpan x y = if hi ≤ lo then [y] else (if y.1 < lo then [(y.1, lo - y.1)] else []) ++ (if hi < y.1 + y.2 then [(hi, y.1 + y.2 - hi)] else [])) := by
        unfold Hid Fr.cutSpan
        rw [hlo, hhi]
      have hlo1 : y.1 ≤ lo := by omega
      have hlo2 : lo ≤ 65536 := by omega
      have hhi1 : hi ≤ y.1 + y.2 := by omega
      have hhi2 : 0 ≤ hi := by omega
      generalize Fr.without (l.take k) x = D at *
      obtain ⟨oa, oc, hov, -, -⟩ := HO.out.slice
      subst hov
      clear hX hat c0 c1 bel hgl
      by_cases hc : hi ≤ lo
      · have HN : Hid (Fr.without (l.take (k + 1)) x = D ++ [y]) := by unfold Hid; rw [HNx.out, HCut.out, if_pos hc]
        go_wp2_with fail
        go_quiet (fail)
        obtain ⟨a6, n6, c6, w8, hr1, ho1, hb1, -⟩ := append_spn (wr.drewN nq) w1.heap.size _ D (HO.out.drewN nq) y (by unfold In2 In64; omega) (by omega) HBz.out
        have HR8 : Hid _ := hr1
        have HO8 : Hid (OwnS 26 w8 w1.heap.size (.slice a6 n6 c6) (Fr.without (l.take (k + 1)) x)) := by unfold Hid; rw [HN.out]; exact ho1
        have HB8 : Hid (Below w1.heap.size w1 w8) := (same_drewN HB.out nq).trans hb1
        clear hr1 ho1 hb1
        go_wp2_with (at_builtin; refine Lib.wpList_append_run _ rfl _ _ _ _ rfl _ _ rfl rfl _ _ HR8.out ?_)
        go_roundw
        case rel => exact ⟨k + 1, by omega, by go_num, HO8, HB8.out⟩
        case measure => simp [intOf]; omega
      · have ewy : IntKind.i64.wrap (y.1 + y.2) = y.1 + y.2 := by rw [IntKind.wrap_i64]; omega
        have ewl : IntKind.i64.wrap (lo - y.1) = lo - y.1 := by rw [IntKind.wrap_i64]; omega
        have ewh : IntKind.i64.wrap (y.1 + y.2 - hi) = y.1 + y.2 - hi := by rw [IntKind.wrap_i64]; omega
        by_cases h1 : y.1 < lo
        · by_cases h2 : hi < y.1 + y.2
          · have HN : Hid (Fr.without (l.take (k + 1)) x = D ++ [(y.1, lo - y.1)] ++ [(hi, y.1 + y.2 - hi)]) := by unfold Hid; rw [HNx.out, HCut.out, if_neg hc, if_pos h1, if_pos h2, List.append_assoc]
            go_wp2_with fail
            go_quiet (fail)
            obtain ⟨a7, n7, c7, w7, hr7, ho7, hb7, -⟩ := append_spn (wr.drewN nq).drew w1.heap.size _ (D) ((HO.out.drewN nq).keep (fun _ _ _ => rfl)) (y.1, lo - y.1) (by unfold In2 In64; simp only; omega) (by first | omega | (simp only [List.length_append, List.length_singleton]; omega)) (same_drewN HB.out nq).size
            have HR7 : Hid _ := hr7
            have HO7 : Hid (OwnS 26 w7 w1.heap.size (.slice a7 n7 c7) (D ++ [(y.1, lo - y.1)])) := ho7
            have HA7 : Hid (Below w1.heap.size w1 ((wr.drewN nq).drew.alloc (.cells #[.int .i64 ((y.1, lo - y.1)).1, .int .i64 ((y.1, lo - y.1)).2] 26))) := (same_drewN HB.out nq).drew.alloc (same_drewN HB.out nq).size _
            have HB7 : Hid (Below w1.heap.size w1 w7) := (same_drewN HB.out nq).drew.trans hb7
            clear hr7 ho7 hb7
            go_wp2_with fail
            refine wp_region_held_drew (S := (fun w' : World => w'.cell? ⟨w.heap.size, 0, none⟩ = some (.int .i64 x.1) ∧ w'.cell? ⟨w.heap.size, 1, none⟩ = some (.int .i64 x.2) ∧ w'.cell? ⟨g, off + k * 2, none⟩ = some (.int .i64 y.1) ∧ w'.cell? ⟨g, off + k * 2 + 1, none⟩ = some (.int .i64 y.2))) (by kernel_rfl) (SK.out (same_drewN HB.out nq).drew) (fun hHeld => ?_)
            refine wpAnyH_takeL (i := 0) (v := ?_) rfl rfl (by kernel_rfl) (by kernel_rfl) (by kernel_rfl) (fun _ _ _ h => h) (Or.inl ⟨by rfl, ?_⟩) (by assumption) ?_
            rotate_left
            · intro w hSw
              try dsimp only at hSw
              go_simp
              all_goals with_reducible rfl
            simp only [List.set_cons_zero, List.set_cons_succ]
            refine wpAnyH_takeL (i := 1) (v := ?_) rfl rfl (by kernel_rfl) (by kernel_rfl) (by kernel_rfl) (fun _ _ _ h => h) (Or.inl ⟨by rfl, ?_⟩) (by assumption) ?_
            rotate_left
            · intro w hSw
              try dsimp only at hSw
              go_simp
              all_goals with_reducible rfl
            simp only [List.set_cons_zero, List.set_cons_succ]
            refine wpAnyH_takeL (i := 2) (v := ?_) rfl rfl (by kernel_rfl) (by kernel_rfl) (by kernel_rfl) (fun _ _ _ h => h) (Or.inl ⟨by rfl, ?_⟩) (by assumption) ?_
            rotate_left
            · intro w hSw
              try dsimp only at hSw
              go_simp
              all_goals with_reducible rfl
            simp only [List.set_cons_zero, List.set_cons_succ]
            refine wpAnyH_takeL (i := 3) (v := ?_) rfl rfl (by kernel_rfl) (by kernel_rfl) (by kernel_rfl) (fun _ _ _ h => h) (Or.inl ⟨by rfl, ?_⟩) (by assumption) ?_
            rotate_left
            · intro w hSw
              try dsimp only at hSw
              go_simp
              all_goals with_reducible rfl
            simp only [List.set_cons_zero, List.set_cons_succ]
            refine wpAnyH_takeL (i := 4) (v := ?_) rfl rfl (by kernel_rfl) (by kernel_rfl) (by kernel_rfl) (fun _ _ _ h => h) (Or.inl ⟨by rfl, ?_⟩) (by assumption) ?_
            rotate_left
            · intro w hSw
              try dsimp only at hSw
              go_simp
              all_goals with_reducible rfl
            simp only [List.set_cons_zero, List.set_cons_succ]
            refine wpAnyH_takeL (i := 5) (v := ?_) rfl rfl (by kernel_rfl) (by kernel_rfl) (by kernel_rfl) (fun _ _ _ h => h) (Or.inl ⟨by rfl, ?_⟩) (by assumption) ?_
            rotate_left
            · intro w hSw
              try dsimp only at hSw
              go_simp
              all_goals with_reducible rfl
            simp only [List.set_cons_zero, List.set_cons_succ]
            refine wpAnyH_takeL (i := 6) (v := ?_) rfl rfl (by kernel_rfl) (by kernel_rfl) (by kernel_rfl) (fun _ _ _ h => h) (Or.inl ⟨by rfl, ?_⟩) (by assumption) ?_
            rotate_left
            · intro w hSw
              try dsimp only at hSw
              go_simp
              all_goals with_reducible rfl
            simp only [List.set_cons_zero, List.set_cons_succ]
            refine wpAnyH_takeL (i := 7) (v := ?_) rfl rfl (by kernel_rfl) (by kernel_rfl) (by kernel_rfl) (fun _ _ _ h => h) (Or.inl ⟨by rfl, ?_⟩) (by assumption) ?_
            rotate_left
            · intro w hSw
              try dsimp only at hSw
              go_simp
              all_goals with_reducible rfl
            simp only [List.set_cons_zero, List.set_cons_succ]
            refine wpAnyH_takeL (i := 8) (v := ?_) rfl rfl (by kernel_rfl) (by kernel_rfl) (by kernel_rfl) (fun _ _ _ h => h) (Or.inl ⟨by rfl, ?_⟩) (by assumption) ?_
            rotate_left
            · intro w hSw
              try dsimp only at hSw
              go_simp
              all_goals with_reducible rfl
            simp only [List.set_cons_zero, List.set_cons_succ]
            refine wpAnyH_takeL (i := 9) (v := ?_) rfl rfl (by kernel_rfl) (by kernel_rfl) (by kernel_rfl) (fun _ _ _ h => h) (Or.inl ⟨by rfl, ?_⟩) (by assumption) ?_
            rotate_left
            · intro w hSw
              try dsimp only at hSw
              go_simp
              all_goals with_reducible rfl
            simp only [List.set_cons_zero, List.set_cons_succ]
            refine wpAnyH_takeL (i := 10) (v := ?_) rfl rfl (by kernel_rfl) (by kernel_rfl) (by kernel_rfl) (fun _ _ _ h => h) (Or.inl ⟨by rfl, ?_⟩) (by assumption) ?_
            rotate_left
            · intro w hSw
              try dsimp only at hSw
              go_simp
              all_goals with_reducible rfl
            simp only [List.set_cons_zero, List.set_cons_succ]
            refine wpAnyH_takeL (i := 11) (v := ?_) rfl rfl (by kernel_rfl) (by kernel_rfl) (by kernel_rfl) (fun _ _ _ h => h) (Or.inl ⟨by rfl, ?_⟩) (by assumption) ?_
            rotate_left
            · intro w hSw
              try dsimp only at hSw
              go_simp
              all_goals with_reducible rfl
            simp only [List.set_cons_zero, List.set_cons_succ]
            refine wpAnyH_takeL (i := 12) (v := ?_) rfl rfl (by kernel_rfl) (by kernel_rfl) (by kernel_rfl) (fun _ _ _ h => h) (Or.inl ⟨by rfl, ?_⟩) (by assumption) ?_
            rotate_left
            · intro w hSw
              try dsimp only at hSw
              go_simp
              all_goals with_reducible rfl
            simp only [List.set_cons_zero, List.set_cons_succ]
            refine wpAnyH_takeL (i := 13) (v := ?_) rfl rfl (by kernel_rfl) (by kernel_rfl) (by kernel_rfl) (fun _ _ _ h => h) (Or.inl ⟨by rfl, ?_⟩) (by assumption) ?_
            rotate_left
            · intro w hSw
              try dsimp only at hSw
              go_simp
              all_goals with_reducible rfl
            simp only [List.set_cons_zero, List.set_cons_succ]
            refine wpAnyH_ready (rs := [14]) (by kernel_rfl) (by simp) ?_
            refine AllReadyH.cons rfl (fun K hK => ?_) ?_
            · go_simp
              refine hK.out _ _ ?_ (fun hHeld => ?_)
              · try dsimp only
                first | exact SK.out HB7.out | exact SK.out HA7.out
              clear hK K
              refine wpAnyH_ready (rs := [15]) (by kernel_rfl) (by simp) ?_
              refine AllReadyH.cons rfl (fun K hK => ?_) ?_
              · refine step_append_run (T := 22) rfl (.tmp 57) (.tmp 71) rfl _ _ rfl rfl _ _ HR7.out ?_
                go_simp
                refine hK.out _ _ ?_ (fun hHeld => ?_)
                · try dsimp only
                  first | exact SK.out HB7.out | exact SK.out HA7.out
                clear hK K
                refine wpAnyH_takeL (i := 16) (v := ?_) rfl rfl (by kernel_rfl) (by kernel_rfl) (by kernel_rfl) (fun _ _ _ h => h) (Or.inl ⟨by rfl, ?_⟩) (by assumption) ?_
                rotate_left
                · intro w hSw
                  try dsimp only at hSw
                  go_simp
                  all_goals with_reducible rfl
                simp only [List.set_cons_zero, List.set_cons_succ]
                refine wpAnyH_done (by kernel_rfl) ?_ _
                clear hHeld
                obtain ⟨s0, s1, s2, s3⟩ := SK.out HB7.out
                go_wp2_with fail
                go_quiet (fail)
                obtain ⟨a8, n8, c8, w8, hr8, ho8, hb8, -⟩ := append_spn (w7.drewN nq).drew w1.heap.size _ (D ++ [(y.1, lo - y.1)]) ((HO7.out.drewN nq).keep (fun _ _ _ => rfl)) (hi, y.1 + y.2 - hi) (by unfold In2 In64; simp only; omega) (by first | omega | (simp only [List.length_append, List.length_singleton]; omega)) (same_drewN HB7.out nq).size
                have HR8 : Hid _ := hr8
                have HO8 : Hid (OwnS 26 w8 w1.heap.size (.slice a8 n8 c8) (D ++ [(y.1, lo - y.1)] ++ [(hi, y.1 + y.2 - hi)])) := ho8
                have HA8 : Hid (Below w1.heap.size w1 ((w7.drewN nq).drew.alloc (.cells #[.int .i64 ((hi, y.1 + y.2 - hi)).1, .int .i64 ((hi, y.1 + y.2 - hi)).2] 26))) := (same_drewN HB7.out nq).drew.alloc (same_drewN HB7.out nq).size _
                have HB8 : Hid (Below w1.heap.size w1 w8) := (same_drewN HB7.out nq).drew.trans hb8
                clear hr8 ho8 hb8
                go_wp2_with fail
                refine wp_region_held_drew (S := (fun w' : World => w'.cell? ⟨w.heap.size, 0, none⟩ = some (.int .i64 x.1) ∧ w'.cell? ⟨w.heap.size, 1, none⟩ = some (.int .i64 x.2) ∧ w'.cell? ⟨g, off + k * 2, none⟩ = some (.int .i64 y.1) ∧ w'.cell? ⟨g, off + k * 2 + 1, none⟩ = some (.int .i64 y.2))) (by kernel_rfl) (SK.out (same_drewN HB7.out nq).drew) (fun hHeld => ?_)
                refine wpAnyH_takeL (i := 0) (v := ?_) rfl rfl (by kernel_rfl) (by kernel_rfl) (by kernel_rfl) (fun _ _ _ h => h) (Or.inl ⟨by rfl, ?_⟩) (by assumption) ?_
                rotate_left
                · intro w hSw
                  try dsimp only at hSw
                  go_simp
                  all_goals with_reducible rfl
                simp only [List.set_cons_zero, List.set_cons_succ]
                refine wpAnyH_takeL (i := 1) (v := ?_) rfl rfl (by kernel_rfl) (by kernel_rfl) (by kernel_rfl) (fun _ _ _ h => h) (Or.inl ⟨by rfl, ?_⟩) (by assumption) ?_
                rotate_left
                · intro w hSw
                  try dsimp only at hSw
                  go_simp
                  all_goals with_reducible rfl
                simp only [List.set_cons_zero, List.set_cons_succ]
                refine wpAnyH_takeL (i := 2) (v := ?_) rfl rfl (by kernel_rfl) (by kernel_rfl) (by kernel_rfl) (fun _ _ _ h => h) (Or.inl ⟨by rfl, ?_⟩) (by assumption) ?_
                rotate_left
                · intro w hSw
                  try dsimp only at hSw
                  go_simp
                  all_goals with_reducible rfl
                simp only [List.set_cons_zero, List.set_cons_succ]
                refine wpAnyH_takeL (i := 3) (v := ?_) rfl rfl (by kernel_rfl) (by kernel_rfl) (by kernel_rfl) (fun _ _ _ h => h) (Or.inl ⟨by rfl, ?_⟩) (by assumption) ?_
                rotate_left
                · intro w hSw
                  try dsimp only at hSw
                  go_simp
                  all_goals with_reducible rfl
                simp only [List.set_cons_zero, List.set_cons_succ]
                refine wpAnyH_takeL (i := 4) (v := ?_) rfl rfl (by kernel_rfl) (by kernel_rfl) (by kernel_rfl) (fun _ _ _ h => h) (Or.inl ⟨by rfl, ?_⟩) (by assumption) ?_
                rotate_left
                · intro w hSw
                  try dsimp only at hSw
                  go_simp
                  all_goals with_reducible rfl
                simp only [List.set_cons_zero, List.set_cons_succ]
                refine wpAnyH_takeL (i := 5) (v := ?_) rfl rfl (by kernel_rfl) (by kernel_rfl) (by kernel_rfl) (fun _ _ _ h => h) (Or.inl ⟨by rfl, ?_⟩) (by assumption) ?_
                rotate_left
                · intro w hSw
                  try dsimp only at hSw
                  go_simp
                  all_goals with_reducible rfl
                simp only [List.set_cons_zero, List.set_cons_succ]
                refine wpAnyH_takeL (i := 6) (v := ?_) rfl rfl (by kernel_rfl) (by kernel_rfl) (by kernel_rfl) (fun _ _ _ h => h) (Or.inl ⟨by rfl, ?_⟩) (by assumption) ?_
                rotate_left
                · intro w hSw
                  try dsimp only at hSw
                  go_simp
                  all_goals with_reducible rfl
                simp only [List.set_cons_zero, List.set_cons_succ]
                refine wpAnyH_takeL (i := 7) (v := ?_) rfl rfl (by kernel_rfl) (by kernel_rfl) (by kernel_rfl) (fun _ _ _ h => h) (Or.inl ⟨by rfl, ?_⟩) (by assumption) ?_
                rotate_left
                · intro w hSw
                  try dsimp only at hSw
                  go_simp
                  all_goals with_reducible rfl
                simp only [List.set_cons_zero, List.set_cons_succ]
                refine wpAnyH_takeL (i := 8) (v := ?_) rfl rfl (by kernel_rfl) (by kernel_rfl) (by kernel_rfl) (fun _ _ _ h => h) (Or.inl ⟨by rfl, ?_⟩) (by assumption) ?_
                rotate_left
                · intro w hSw
                  try dsimp only at hSw
                  go_simp
                  all_goals with_reducible rfl
                simp only [List.set_cons_zero, List.set_cons_succ]
                refine wpAnyH_takeL (i := 9) (v := ?_) rfl rfl (by kernel_rfl) (by kernel_rfl) (by kernel_rfl) (fun _ _ _ h => h) (Or.inl ⟨by rfl, ?_⟩) (by assumption) ?_
                rotate_left
                · intro w hSw
                  try dsimp only at hSw
                  go_simp
                  all_goals with_reducible rfl
                simp only [List.set_cons_zero, List.set_cons_succ]
                refine wpAnyH_takeL (i := 10) (v := ?_) rfl rfl (by kernel_rfl) (by kernel_rfl) (by kernel_rfl) (fun _ _ _ h => h) (Or.inl ⟨by rfl, ?_⟩) (by assumption) ?_
                rotate_left
                · intro w hSw
                  try dsimp only at hSw
                  go_simp
                  all_goals with_reducible rfl
                simp only [List.set_cons_zero, List.set_cons_succ]
                refine wpAnyH_takeL (i := 11) (v := ?_) rfl rfl (by kernel_rfl) (by kernel_rfl) (by kernel_rfl) (fun _ _ _ h => h) (Or.inl ⟨by rfl, ?_⟩) (by assumption) ?_
                rotate_left
                · intro w hSw
                  try dsimp only at hSw
                  go_simp
                  all_goals with_reducible rfl
                simp only [List.set_cons_zero, List.set_cons_succ]
                refine wpAnyH_takeL (i := 12) (v := ?_) rfl rfl (by kernel_rfl) (by kernel_rfl) (by kernel_rfl) (fun _ _ _ h => h) (Or.inl ⟨by rfl, ?_⟩) (by assumption) ?_
                rotate_left
                · intro w hSw
                  try dsimp only at hSw
                  go_simp
                  all_goals with_reducible rfl
                simp only [List.set_cons_zero, List.set_cons_succ]
                refine wpAnyH_takeL (i := 13) (v := ?_) rfl rfl (by kernel_rfl) (by kernel_rfl) (by kernel_rfl) (fun _ _ _ h => h) (Or.inl ⟨by rfl, ?_⟩) (by assumption) ?_
                rotate_left
                · intro w hSw
                  try dsimp only at hSw
                  go_simp
                  all_goals with_reducible rfl
                simp only [List.set_cons_zero, List.set_cons_succ]
                refine wpAnyH_takeL (i := 14) (v := ?_) rfl rfl (by kernel_rfl) (by kernel_rfl) (by kernel_rfl) (fun _ _ _ h => h) (Or.inl ⟨by rfl, ?_⟩) (by assumption) ?_
                rotate_left
                · intro w hSw
                  try dsimp only at hSw
                  go_simp
                  all_goals with_reducible rfl
                simp only [List.set_cons_zero, List.set_cons_succ]
                refine wpAnyH_takeL (i := 15) (v := ?_) rfl rfl (by kernel_rfl) (by kernel_rfl) (by kernel_rfl) (fun _ _ _ h => h) (Or.inl ⟨by rfl, ?_⟩) (by assumption) ?_
                rotate_left
                · intro w hSw
                  try dsimp only at hSw
                  go_simp
                  all_goals with_reducible rfl
                simp only [List.set_cons_zero, List.set_cons_succ]
                refine wpAnyH_ready (rs := [16]) (by kernel_rfl) (by simp) ?_
                refine AllReadyH.cons rfl (fun K hK => ?_) ?_
                · go_simp
                  refine hK.out _ _ ?_ (fun hHeld => ?_)
                  · try dsimp only
                    first | exact SK.out HB8.out | exact SK.out HA8.out
                  clear hK K
                  refine wpAnyH_ready (rs := [17]) (by kernel_rfl) (by simp) ?_
                  refine AllReadyH.cons rfl (fun K hK => ?_) ?_
                  · refine step_append_run (T := 22) rfl (.tmp 86) (.tmp 102) rfl _ _ rfl rfl _ _ HR8.out ?_
                    go_simp
                    refine hK.out _ _ ?_ (fun hHeld => ?_)
                    · try dsimp only
                      first | exact SK.out HB8.out | exact SK.out HA8.out
                    clear hK K
                    refine wpAnyH_takeL (i := 18) (v := ?_) rfl rfl (by kernel_rfl) (by kernel_rfl) (by kernel_rfl) (fun _ _ _ h => h) (Or.inl ⟨by rfl, ?_⟩) (by assumption) ?_
                    rotate_left
                    · intro w hSw
                      try dsimp only at hSw
                      go_simp
                      all_goals with_reducible rfl
                    simp only [List.set_cons_zero, List.set_cons_succ]
                    refine wpAnyH_done (by kernel_rfl) ?_ _
                    clear hHeld
                    go_wp2
                    go_roundw
                    case rel => exact ⟨k + 1, by omega, by go_num, by rw [HN.out]; exact HO8.out, HB8.out⟩
                    case measure => simp [intOf]; omega
                  exact AllReadyH.nil
                exact AllReadyH.nil
              exact AllReadyH.nil
            exact AllReadyH.nil
          · have HN : Hid (Fr.without (l.take (k + 1)) x = D ++ [(y.1, lo - y.1)]) := by unfold Hid; rw [HNx.out, HCut.out, if_neg hc, if_pos h1, if_neg h2, List.append_nil]
            go_wp2_with fail
            go_quiet (fail)
            obtain ⟨a7, n7, c7, w7, hr7, ho7, hb7, -⟩ := append_spn (wr.drewN nq).drew w1.heap.size _ (D) ((HO.out.drewN nq).keep (fun _ _ _ => rfl)) (y.1, lo - y.1) (by unfold In2 In64; simp only; omega) (by first | omega | (simp only [List.length_append, List.length_singleton]; omega)) (same_drewN HB.out nq).size
            have HR7 : Hid _ := hr7
            have HO7 : Hid (OwnS 26 w7 w1.heap.size (.slice a7 n7 c7) (D ++ [(y.1, lo - y.1)])) := ho7
            have HA7 : Hid (Below w1.heap.size w1 ((wr.drewN nq).drew.alloc (.cells #[.int .i64 ((y.1, lo - y.1)).1, .int .i64 ((y.1, lo - y.1)).2] 26))) := (same_drewN HB.out nq).drew.alloc (same_drewN HB.out nq).size _
            have HB7 : Hid (Below w1.heap.size w1 w7) := (same_drewN HB.out nq).drew.trans hb7
            clear hr7 ho7 hb7
            go_wp2_with fail
            refine wp_region_held_drew (S := (fun w' : World => w'.cell? ⟨w.heap.size, 0, none⟩ = some (.int .i64 x.1) ∧ w'.cell? ⟨w.heap.size, 1, none⟩ = some (.int .i64 x.2) ∧ w'.cell? ⟨g, off + k * 2, none⟩ = some (.int .i64 y.1) ∧ w'.cell? ⟨g, off + k * 2 + 1, none⟩ = some (.int .i64 y.2))) (by kernel_rfl) (SK.out (same_drewN HB.out nq).drew) (fun hHeld => ?_)
            refine wpAnyH_takeL (i := 0) (v := ?_) rfl rfl (by kernel_rfl) (by kernel_rfl) (by kernel_rfl) (fun _ _ _ h => h) (Or.inl ⟨by rfl, ?_⟩) (by assumption) ?_
            rotate_left
            · intro w hSw
              try dsimp only at hSw
              go_simp
              all_goals with_reducible rfl
            simp only [List.set_cons_zero, List.set_cons_succ]
            refine wpAnyH_takeL (i := 1) (v := ?_) rfl rfl (by kernel_rfl) (by kernel_rfl) (by kernel_rfl) (fun _ _ _ h => h) (Or.inl ⟨by rfl, ?_⟩) (by assumption) ?_
            rotate_left
            · intro w hSw
              try dsimp only at hSw
              go_simp
              all_goals with_reducible rfl
            simp only [List.set_cons_zero, List.set_cons_succ]
            refine wpAnyH_takeL (i := 2) (v := ?_) rfl rfl (by kernel_rfl) (by kernel_rfl) (by kernel_rfl) (fun _ _ _ h => h) (Or.inl ⟨by rfl, ?_⟩) (by assumption) ?_
            rotate_left
            · intro w hSw
              try dsimp only at hSw
              go_simp
              all_goals with_reducible rfl
            simp only [List.set_cons_zero, List.set_cons_succ]
            refine wpAnyH_takeL (i := 3) (v := ?_) rfl rfl (by kernel_rfl) (by kernel_rfl) (by kernel_rfl) (fun _ _ _ h => h) (Or.inl ⟨by rfl, ?_⟩) (by assumption) ?_
            rotate_left
            · intro w hSw
              try dsimp only at hSw
              go_simp
              all_goals with_reducible rfl
            simp only [List.set_cons_zero, List.set_cons_succ]
            refine wpAnyH_takeL (i := 4) (v := ?_) rfl rfl (by kernel_rfl) (by kernel_rfl) (by kernel_rfl) (fun _ _ _ h => h) (Or.inl ⟨by rfl, ?_⟩) (by assumption) ?_
            rotate_left
            · intro w hSw
              try dsimp only at hSw
              go_simp
              all_goals with_reducible rfl
            simp only [List.set_cons_zero, List.set_cons_succ]
            refine wpAnyH_takeL (i := 5) (v := ?_) rfl rfl (by kernel_rfl) (by kernel_rfl) (by kernel_rfl) (fun _ _ _ h => h) (Or.inl ⟨by rfl, ?_⟩) (by assumption) ?_
            rotate_left
            · intro w hSw
              try dsimp only at hSw
              go_simp
              all_goals with_reducible rfl
            simp only [List.set_cons_zero, List.set_cons_succ]
            refine wpAnyH_takeL (i := 6) (v := ?_) rfl rfl (by kernel_rfl) (by kernel_rfl) (by kernel_rfl) (fun _ _ _ h => h) (Or.inl ⟨by rfl, ?_⟩) (by assumption) ?_
            rotate_left
            · intro w hSw
              try dsimp only at hSw
              go_simp
              all_goals with_reducible rfl
            simp only [List.set_cons_zero, List.set_cons_succ]
            refine wpAnyH_takeL (i := 7) (v := ?_) rfl rfl (by kernel_rfl) (by kernel_rfl) (by kernel_rfl) (fun _ _ _ h => h) (Or.inl ⟨by rfl, ?_⟩) (by assumption) ?_
            rotate_left
            · intro w hSw
              try dsimp only at hSw
              go_simp
              all_goals with_reducible rfl
            simp only [List.set_cons_zero, List.set_cons_succ]
            refine wpAnyH_takeL (i := 8) (v := ?_) rfl rfl (by kernel_rfl) (by kernel_rfl) (by kernel_rfl) (fun _ _ _ h => h) (Or.inl ⟨by rfl, ?_⟩) (by assumption) ?_
            rotate_left
            · intro w hSw
              try dsimp only at hSw
              go_simp
              all_goals with_reducible rfl
            simp only [List.set_cons_zero, List.set_cons_succ]
            refine wpAnyH_takeL (i := 9) (v := ?_) rfl rfl (by kernel_rfl) (by kernel_rfl) (by kernel_rfl) (fun _ _ _ h => h) (Or.inl ⟨by rfl, ?_⟩) (by assumption) ?_
            rotate_left
            · intro w hSw
              try dsimp only at hSw
              go_simp
              all_goals with_reducible rfl
            simp only [List.set_cons_zero, List.set_cons_succ]
            refine wpAnyH_takeL (i := 10) (v := ?_) rfl rfl (by kernel_rfl) (by kernel_rfl) (by kernel_rfl) (fun _ _ _ h => h) (Or.inl ⟨by rfl, ?_⟩) (by assumption) ?_
            rotate_left
            · intro w hSw
              try dsimp only at hSw
              go_simp
              all_goals with_reducible rfl
            simp only [List.set_cons_zero, List.set_cons_succ]
            refine wpAnyH_takeL (i := 11) (v := ?_) rfl rfl (by kernel_rfl) (by kernel_rfl) (by kernel_rfl) (fun _ _ _ h => h) (Or.inl ⟨by rfl, ?_⟩) (by assumption) ?_
            rotate_left
            · intro w hSw
              try dsimp only at hSw
              go_simp
              all_goals with_reducible rfl
            simp only [List.set_cons_zero, List.set_cons_succ]
            refine wpAnyH_takeL (i := 12) (v := ?_) rfl rfl (by kernel_rfl) (by kernel_rfl) (by kernel_rfl) (fun _ _ _ h => h) (Or.inl ⟨by rfl, ?_⟩) (by assumption) ?_
            rotate_left
            · intro w hSw
              try dsimp only at hSw
              go_simp
              all_goals with_reducible rfl
            simp only [List.set_cons_zero, List.set_cons_succ]
            refine wpAnyH_takeL (i := 13) (v := ?_) rfl rfl (by kernel_rfl) (by kernel_rfl) (by kernel_rfl) (fun _ _ _ h => h) (Or.inl ⟨by rfl, ?_⟩) (by assumption) ?_
            rotate_left
            · intro w hSw
              try dsimp only at hSw
              go_simp
              all_goals with_reducible rfl
            simp only [List.set_cons_zero, List.set_cons_succ]
            refine wpAnyH_ready (rs := [14]) (by kernel_rfl) (by simp) ?_
            refine AllReadyH.cons rfl (fun K hK => ?_) ?_
            · go_simp
              refine hK.out _ _ ?_ (fun hHeld => ?_)
              · try dsimp only
                first | exact SK.out HB7.out | exact SK.out HA7.out
              clear hK K
              refine wpAnyH_ready (rs := [15]) (by kernel_rfl) (by simp) ?_
              refine AllReadyH.cons rfl (fun K hK => ?_) ?_
              · refine step_append_run (T := 22) rfl (.tmp 57) (.tmp 71) rfl _ _ rfl rfl _ _ HR7.out ?_
                go_simp
                refine hK.out _ _ ?_ (fun hHeld => ?_)
                · try dsimp only
                  first | exact SK.out HB7.out | exact SK.out HA7.out
                clear hK K
                refine wpAnyH_takeL (i := 16) (v := ?_) rfl rfl (by kernel_rfl) (by kernel_rfl) (by kernel_rfl) (fun _ _ _ h => h) (Or.inl ⟨by rfl, ?_⟩) (by assumption) ?_
                rotate_left
                · intro w hSw
                  try dsimp only at hSw
                  go_simp
                  all_goals with_reducible rfl
                simp only [List.set_cons_zero, List.set_cons_succ]
                refine wpAnyH_done (by kernel_rfl) ?_ _
                clear hHeld
                obtain ⟨s0, s1, s2, s3⟩ := SK.out HB7.out
                go_wp2_with fail
                go_quiet (fail)
                go_wp2
                go_roundw
                case rel => exact ⟨k + 1, by omega, by go_num, by rw [HN.out]; exact HO7.out.drewN _, same_drewN HB7.out _⟩
                case measure => simp [intOf]; omega
              exact AllReadyH.nil
            exact AllReadyH.nil
        · by_cases h2 : hi < y.1 + y.2
          · have HN : Hid (Fr.without (l.take (k + 1)) x = D ++ [(hi, y.1 + y.2 - hi)]) := by unfold Hid; rw [HNx.out, HCut.out, if_neg hc, if_neg h1, if_pos h2, List.nil_append]
            go_wp2_with fail
            go_quiet (fail)
            rename Nat => n1
            go_wp2_with fail
            go_quiet (fail)
            obtain ⟨a7, n7, c7, w7, hr7, ho7, hb7, -⟩ := append_spn (wr.drewN (n1 + nq)).drew w1.heap.size _ (D) ((HO.out.drewN (n1 + nq)).keep (fun _ _ _ => rfl)) (hi, y.1 + y.2 - hi) (by unfold In2 In64; simp only; omega) (by first | omega | (simp only [List.length_append, List.length_singleton]; omega)) (same_drewN HB.out (n1 + nq)).size
            have HR7 : Hid _ := hr7
            have HO7 : Hid (OwnS 26 w7 w1.heap.size (.slice a7 n7 c7) (D ++ [(hi, y.1 + y.2 - hi)])) := ho7
            have HA7 : Hid (Below w1.heap.size w1 ((wr.drewN (n1 + nq)).drew.alloc (.cells #[.int .i64 ((hi, y.1 + y.2 - hi)).1, .int .i64 ((hi, y.1 + y.2 - hi)).2] 26))) := (same_drewN HB.out (n1 + nq)).drew.alloc (same_drewN HB.out (n1 + nq)).size _
            have HB7 : Hid (Below w1.heap.size w1 w7) := (same_drewN HB.out (n1 + nq)).drew.trans hb7
            clear hr7 ho7 hb7
            go_wp2_with fail
            refine wp_region_held_drew (S := (fun w' : World => w'.cell? ⟨w.heap.size, 0, none⟩ = some (.int .i64 x.1) ∧ w'.cell? ⟨w.heap.size, 1, none⟩ = some (.int .i64 x.2) ∧ w'.cell? ⟨g, off + k * 2, none⟩ = some (.int .i64 y.1) ∧ w'.cell? ⟨g, off + k * 2 + 1, none⟩ = some (.int .i64 y.2))) (by kernel_rfl) (SK.out (same_drewN HB.out (n1 + nq)).drew) (fun hHeld => ?_)
            refine wpAnyH_takeL (i := 0) (v := ?_) rfl rfl (by kernel_rfl) (by kernel_rfl) (by kernel_rfl) (fun _ _ _ h => h) (Or.inl ⟨by rfl, ?_⟩) (by assumption) ?_
            rotate_left
            · intro w hSw
              try dsimp only at hSw
              go_simp
              all_goals with_reducible rfl
            simp only [List.set_cons_zero, List.set_cons_succ]
            refine wpAnyH_takeL (i := 1) (v := ?_) rfl rfl (by kernel_rfl) (by kernel_rfl) (by kernel_rfl) (fun _ _ _ h => h) (Or.inl ⟨by rfl, ?_⟩) (by assumption) ?_
            rotate_left
            · intro w hSw
              try dsimp only at hSw
              go_simp
              all_goals with_reducible rfl
            simp only [List.set_cons_zero, List.set_cons_succ]
            refine wpAnyH_takeL (i := 2) (v := ?_) rfl rfl (by kernel_rfl) (by kernel_rfl) (by kernel_rfl) (fun _ _ _ h => h) (Or.inl ⟨by rfl, ?_⟩) (by assumption) ?_
            rotate_left
            · intro w hSw
              try dsimp only at hSw
              go_simp
              all_goals with_reducible rfl
            simp only [List.set_cons_zero, List.set_cons_succ]
            refine wpAnyH_takeL (i := 3) (v := ?_) rfl rfl (by kernel_rfl) (by kernel_rfl) (by kernel_rfl) (fun _ _ _ h => h) (Or.inl ⟨by rfl, ?_⟩) (by assumption) ?_
            rotate_left
            · intro w hSw
              try dsimp only at hSw
              go_simp
              all_goals with_reducible rfl
            simp only [List.set_cons_zero, List.set_cons_succ]
            refine wpAnyH_takeL (i := 4) (v := ?_) rfl rfl (by kernel_rfl) (by kernel_rfl) (by kernel_rfl) (fun _ _ _ h => h) (Or.inl ⟨by rfl, ?_⟩) (by assumption) ?_
            rotate_left
            · intro w hSw
              try dsimp only at hSw
              go_simp
              all_goals with_reducible rfl
            simp only [List.set_cons_zero, List.set_cons_succ]
            refine wpAnyH_takeL (i := 5) (v := ?_) rfl rfl (by kernel_rfl) (by kernel_rfl) (by kernel_rfl) (fun _ _ _ h => h) (Or.inl ⟨by rfl, ?_⟩) (by assumption) ?_
            rotate_left
            · intro w hSw
              try dsimp only at hSw
              go_simp
              all_goals with_reducible rfl
            simp only [List.set_cons_zero, List.set_cons_succ]
            refine wpAnyH_takeL (i := 6) (v := ?_) rfl rfl (by kernel_rfl) (by kernel_rfl) (by kernel_rfl) (fun _ _ _ h => h) (Or.inl ⟨by rfl, ?_⟩) (by assumption) ?_
            rotate_left
            · intro w hSw
              try dsimp only at hSw
              go_simp
              all_goals with_reducible rfl
            simp only [List.set_cons_zero, List.set_cons_succ]
            refine wpAnyH_takeL (i := 7) (v := ?_) rfl rfl (by kernel_rfl) (by kernel_rfl) (by kernel_rfl) (fun _ _ _ h => h) (Or.inl ⟨by rfl, ?_⟩) (by assumption) ?_
            rotate_left
            · intro w hSw
              try dsimp only at hSw
              go_simp
              all_goals with_reducible rfl
            simp only [List.set_cons_zero, List.set_cons_succ]
            refine wpAnyH_takeL (i := 8) (v := ?_) rfl rfl (by kernel_rfl) (by kernel_rfl) (by kernel_rfl) (fun _ _ _ h => h) (Or.inl ⟨by rfl, ?_⟩) (by assumption) ?_
            rotate_left
            · intro w hSw
              try dsimp only at hSw
              go_simp
              all_goals with_reducible rfl
            simp only [List.set_cons_zero, List.set_cons_succ]
            refine wpAnyH_takeL (i := 9) (v := ?_) rfl rfl (by kernel_rfl) (by kernel_rfl) (by kernel_rfl) (fun _ _ _ h => h) (Or.inl ⟨by rfl, ?_⟩) (by assumption) ?_
            rotate_left
            · intro w hSw
              try dsimp only at hSw
              go_simp
              all_goals with_reducible rfl
            simp only [List.set_cons_zero, List.set_cons_succ]
            refine wpAnyH_takeL (i := 10) (v := ?_) rfl rfl (by kernel_rfl) (by kernel_rfl) (by kernel_rfl) (fun _ _ _ h => h) (Or.inl ⟨by rfl, ?_⟩) (by assumption) ?_
            rotate_left
            · intro w hSw
              try dsimp only at hSw
              go_simp
              all_goals with_reducible rfl
            simp only [List.set_cons_zero, List.set_cons_succ]
            refine wpAnyH_takeL (i := 11) (v := ?_) rfl rfl (by kernel_rfl) (by kernel_rfl) (by kernel_rfl) (fun _ _ _ h => h) (Or.inl ⟨by rfl, ?_⟩) (by assumption) ?_
            rotate_left
            · intro w hSw
              try dsimp only at hSw
              go_simp
              all_goals with_reducible rfl
            simp only [List.set_cons_zero, List.set_cons_succ]
            refine wpAnyH_takeL (i := 12) (v := ?_) rfl rfl (by kernel_rfl) (by kernel_rfl) (by kernel_rfl) (fun _ _ _ h => h) (Or.inl ⟨by rfl, ?_⟩) (by assumption) ?_
            rotate_left
            · intro w hSw
              try dsimp only at hSw
              go_simp
              all_goals with_reducible rfl
            simp only [List.set_cons_zero, List.set_cons_succ]
            refine wpAnyH_takeL (i := 13) (v := ?_) rfl rfl (by kernel_rfl) (by kernel_rfl) (by kernel_rfl) (fun _ _ _ h => h) (Or.inl ⟨by rfl, ?_⟩) (by assumption) ?_
            rotate_left
            · intro w hSw
              try dsimp only at hSw
              go_simp
              all_goals with_reducible rfl
            simp only [List.set_cons_zero, List.set_cons_succ]
            refine wpAnyH_takeL (i := 14) (v := ?_) rfl rfl (by kernel_rfl) (by kernel_rfl) (by kernel_rfl) (fun _ _ _ h => h) (Or.inl ⟨by rfl, ?_⟩) (by assumption) ?_
            rotate_left
            · intro w hSw
              try dsimp only at hSw
              go_simp
              all_goals with_reducible rfl
            simp only [List.set_cons_zero, List.set_cons_succ]
            refine wpAnyH_takeL (i := 15) (v := ?_) rfl rfl (by kernel_rfl) (by kernel_rfl) (by kernel_rfl) (fun _ _ _ h => h) (Or.inl ⟨by rfl, ?_⟩) (by assumption) ?_
            rotate_left
            · intro w hSw
              try dsimp only at hSw
              go_simp
              all_goals with_reducible rfl
            simp only [List.set_cons_zero, List.set_cons_succ]
            refine wpAnyH_ready (rs := [16]) (by kernel_rfl) (by simp) ?_
            refine AllReadyH.cons rfl (fun K hK => ?_) ?_
            · go_simp
              refine hK.out _ _ ?_ (fun hHeld => ?_)
              · try dsimp only
                first | exact SK.out HB7.out | exact SK.out HA7.out
              clear hK K
              refine wpAnyH_ready (rs := [17]) (by kernel_rfl) (by simp) ?_
              refine AllReadyH.cons rfl (fun K hK => ?_) ?_
              · refine step_append_run (T := 22) rfl (.tmp 86) (.tmp 102) rfl _ _ rfl rfl _ _ HR7.out ?_
                go_simp
                refine hK.out _ _ ?_ (fun hHeld => ?_)
                · try dsimp only
                  first | exact SK.out HB7.out | exact SK.out HA7.out
                clear hK K
                refine wpAnyH_takeL (i := 18) (v := ?_) rfl rfl (by kernel_rfl) (by kernel_rfl) (by kernel_rfl) (fun _ _ _ h => h) (Or.inl ⟨by rfl, ?_⟩) (by assumption) ?_
                rotate_left
                · intro w hSw
                  try dsimp only at hSw
                  go_simp
                  all_goals with_reducible rfl
                simp only [List.set_cons_zero, List.set_cons_succ]
                refine wpAnyH_done (by kernel_rfl) ?_ _
                clear hHeld
                go_wp2
                go_roundw
                case rel => exact ⟨k + 1, by omega, by go_num, by rw [HN.out]; exact HO7.out, HB7.out⟩
                case measure => simp [intOf]; omega
              exact AllReadyH.nil
            exact AllReadyH.nil
          · have HN : Hid (Fr.without (l.take (k + 1)) x = D) := by unfold Hid; rw [HNx.out, HCut.out, if_neg hc, if_neg h1, if_neg h2, List.nil_append, List.append_nil]
            go_wp2_with fail
            go_quiet (fail)
            go_wp2_with fail
            go_quiet (fail)
            go_wp2
            go_roundw
            case rel => exact ⟨k + 1, by omega, by go_num, by rw [HN.out]; exact HO.out.drewN _, same_drewN HB.out _⟩
            case measure => simp [intOf]; omega
    · obtain rfl : k = n := by omega
      have HE : Hid (Fr.without (l.take k) x = Fr.without l x) := by unfold Hid; rw [List.take_of_length_le (by rw [HL.out]; exact Nat.le_refl _)]
      go_wp2
      go_ret
      exact ⟨_, rfl, by rw [← HE.out]; exact HO.out.mono HBs.out, B1.out.trans (bel.mono HBs.out)⟩

end Go.Proofs.Ytbbjbajdoekheaa
