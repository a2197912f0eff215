/-
  The contracts of a sector laid anew, of many, of an act copied, of a host with one act more. Conditions: those that each contract names.
-/
import Derived.Test.YtckcicomkapdeaaRRow
import Derived.Test.YtckcicomkapdeaaRBytes
import Derived.Test.YtckcicomkapdeaaRows
import Derived.Test.YtckcicomkapdeaaRHBase
import Derived.Deep.RegionLaw
import Derived.Test.YtckcicomkapdeaaHPlain
namespace Go.Proofs.Ytckcicomkapdeaa
open Go.RowKit
set_option linter.unusedVariables false

/-- Octets laid into a sector. -/
def lay (l : List UInt8) : List UInt8 := l.take 64 ++ List.replicate (64 - l.length) 0

theorem lay_length (l : List UInt8) : (lay l).length = 64 := by simp [lay]; omega
theorem lay_full {l : List UInt8} (h : l.length = 64) : lay l = l := by simp only [lay, h, Nat.sub_self, List.replicate_zero, List.append_nil]; exact List.take_of_length_le (by omega)
theorem lay_nil : lay [] = Hst.zeros := rfl

/-- Octets that are to be laid into a sector. -/
def rPad : Rep (List UInt8) where
  size := 1
  bytes := 24
  rd w P cs x := ∃ l, rBytes.rd w P cs l ∧ x = lay l
  len := by rintro w P cs x ⟨l, h, _⟩; exact rBytes.len h
  one := by rintro w P cs x ⟨l, h, _⟩; exact rBytes.one h
  keep := by rintro w w' P cs x ⟨l, h, e⟩ hk; exact ⟨l, rBytes.keep h hk, e⟩
  weaken := by rintro w P P' cs x ⟨l, h, e⟩ hk; exact ⟨l, rBytes.weaken h hk, e⟩

def rPads : Rep (List (List UInt8)) := rList rPad (by decide)

theorem rPads_at {w : World} {P : Nat → Prop} {a : Option Addr} {n c : Nat} {L : List (List UInt8)} (h : rPads.rd w P [.slice a n c] L) (hn : 0 < n) :
    ∃ b off, a = some ⟨b, off, none⟩ ∧ P b ∧ b < w.heap.size ∧ ∀ (j : Nat) (hj : j < L.length), ∃ x m d l, rBytes.rd w P [.slice x m d] l ∧ L[j] = lay l ∧ w.cell? ⟨b, off + j, none⟩ = some (.slice x m d) := by
  obtain ⟨b, off, e1, e2, e3, e4⟩ := rList_at h hn
  refine ⟨b, off, e1, e2, e3, fun j hj => ?_⟩
  obtain ⟨cj, ⟨l, g0, g1⟩, g2⟩ := e4 j hj
  have g0' := g0
  obtain ⟨x, m, d, rfl, _⟩ := g0
  refine ⟨x, m, d, l, g0', g1, ?_⟩
  have := g2 0 (.slice x m d) rfl
  rwa [show j * rPad.size + 0 = j from by show j * 1 + 0 = j; omega] at this

theorem rPads_len {w : World} {P : Nat → Prop} {a : Option Addr} {n c : Nat} {L : List (List UInt8)} (h : rPads.rd w P [.slice a n c] L) : L.length = n ∧ n ≤ 5864062014634 ∧ n ≤ c := by
  obtain ⟨a', n', c', e, h1, h2, _, h4, _⟩ := h
  simp only [List.cons.injEq, Value.slice.injEq, and_true] at e
  obtain ⟨rfl, rfl, rfl⟩ := e
  have h5 : n * 24 ≤ 140737488351232 := h4
  exact ⟨h1, by omega, h2⟩

/-- Sectors that may be are octets to be laid. -/
theorem rPads_of {w : World} {P : Nat → Prop} {cs : List Value} {L : List (List UInt8)} (h : rSectors.rd w P cs L) (h64 : ∀ b ∈ L, b.length = 64) : rPads.rd w P cs L := by
  obtain ⟨a, n, c, rfl, h1, h2, h3, h4, h5⟩ := h
  refine ⟨a, n, c, rfl, h1, h2, h3, h4, fun x hx j hj => ?_⟩
  obtain ⟨hp, cj, g1, g2⟩ := h5 x hx j hj
  exact ⟨hp, cj, ⟨_, g1, (lay_full (h64 _ (List.getElem_mem hj))).symm⟩, g2⟩

theorem info_bytes : (Try.prog.info? 26).map (fun i => (i.zero, i.size, i.bytes)) = some (some (.slice none 0 0), 1, 24) := by kernel_rfl

theorem cells_take (l : List UInt8) (k : Nat) : (cellsOf l).take k = cellsOf (l.take k) := by simp [cellsOf]
theorem cells_length (l : List UInt8) : (cellsOf l).length = l.length := by simp [cellsOf]

theorem isB_front {w : World} {a : Option Addr} {n : Nat} {l : List UInt8} (h : IsB w a n l) {X : List Value} {k : Nat} (hX : X = cellsOf (l.take k)) (h0 : 0 < X.length) : ∃ ad, a = some ad ∧ ∀ (j : Nat) (v : Value), X[j]? = some v → w.cell? (ad.add j) = some v := by
  obtain ⟨h1, h2, h3⟩ := h
  rw [hX, cells_length, List.length_take] at h0
  cases a with
  | none => have := h2 rfl; omega
  | some x =>
    refine ⟨x, rfl, fun j v hj => ?_⟩
    rw [hX] at hj
    simp only [cellsOf, List.getElem?_map, Option.map_eq_some_iff, List.getElem?_take] at hj
    obtain ⟨b, hb, rfl⟩ := hj
    split at hb
    · obtain ⟨hl, rfl⟩ := List.getElem?_eq_some_iff.1 hb
      exact h3 x rfl j hl
    · cases hb

theorem lay_cells (l : List UInt8) : splice (List.replicate 64 (Value.int .u8 0)) 0 (cellsOf (l.take 64)) = cellsOf (lay l) := by
  unfold splice lay cellsOf
  simp only [List.take_zero, List.nil_append, List.map_append, List.length_map, List.length_take, List.drop_replicate, List.map_replicate, Nat.zero_add]
  congr 2
  omega

set_option maxHeartbeats 800000 in
theorem laid_u (w : World) (P : Nat → Prop) (a : Option Addr) (n c : Nat) (l : List UInt8) (h : rBytes.rd w P [.slice a n c] l) :
    Calls Try.prog 42 #[.slice a n c] w fun e w' => ∃ b, e = .returned (.slice b 64 64) ∧ rBytes.rd w' (fun k => w.heap.size ≤ k) [.slice b 64 64] (lay l) ∧ Below w.heap.size w w' := by
  obtain ⟨h1, h2, h3, h4⟩ := rBytes_isB h
  have hlen : l.length = n := h1.1
  have HL : Hid _ := hlen
  clear hlen
  obtain ⟨X, hX⟩ : ∃ X, X = cellsOf (l.take 64) := ⟨_, rfl⟩
  have hXl : X.length = Nat.min n 64 := by rw [hX, cells_length, List.length_take, HL.out]; exact Nat.min_comm _ _
  have hX1 : ∀ v ∈ X, v.oneCell' = true := by
    intro v hv; rw [hX] at hv; obtain ⟨x, _, rfl⟩ := List.mem_map.1 hv; rfl
  have HX : Hid _ := hX
  have HX1 : Hid _ := hX1
  clear hX hX1
  have HXL : Hid _ := hXl
  clear hXl
  go_enter Try.func42, Try.ntmps42
  go_wp2_with (at_make; refine make_row _ rfl _ _ 26 rfl 5 (.int .u8 0) 1 Try.underlying26 info_u8 rfl 64 _ rfl rfl rfl (by decide) (by decide) ?_; intro w1 HR b1 z1)
  obtain ⟨w2, hrun, HR2, k2, z2⟩ := copy_run (Pr := Try.prog) w1 26 26 3 5 Try.underlying26 (by kernel_rfl) (some ⟨w.heap.size, 0, none⟩) a 64 64 n c w.heap.size 0 _ 5 HR.out X HXL.out (fun hp => ⟨rfl, isB_front (h1.below b1) HX.out hp⟩) (by have := HXL.out; simp only [Nat.zero_add, List.length_replicate, this]; exact Nat.min_le_right _ _) HX1.out
  have b2 := Kept.belowOf b1 k2 (Nat.le_refl _)
  have HR3 : Hid (Row w2 w.heap.size 5 (cellsOf (lay l))) := by unfold Hid; rw [← lay_cells, ← HX.out]; exact HR2
  clear HR2 HR HX1
  rw [hrun]
  clear hrun
  go_wp2
  go_ret
  exact ⟨_, rfl, rd_row HR3.out (fun j v h => h) (rdAll_bytes _ _ _) (lay_length l) (Nat.le_refl _) (by decide) (Nat.le_refl _), b2⟩

theorem set_mid {α : Type} {vs : List α} {z v : α} {k m : Nat} (h : vs.length = k) : (vs ++ List.replicate (m + 1) z).set k v = (vs ++ [v]) ++ List.replicate m z := by
  subst h
  rw [List.set_append_right _ _ (Nat.le_refl _), Nat.sub_self, List.replicate_succ, List.set_cons_zero, List.append_assoc]
  rfl

theorem at_mid {α : Type} {vs : List α} {z : α} {k n : Nat} (h : vs.length = k) (hk : k < n) : (vs ++ List.replicate (n - k) z)[k]? = some z := by
  subst h
  rw [List.getElem?_append_right (Nat.le_refl _), Nat.sub_self, List.getElem?_replicate, if_pos (by omega)]

set_option maxHeartbeats 1000000 in
theorem laidAll_u (w : World) (P : Nat → Prop) (a : Option Addr) (n c : Nat) (L : List (List UInt8)) (h : rPads.rd w P [.slice a n c] L) :
    Calls Try.prog 37 #[.slice a n c] w fun e w' => ∃ b, e = .returned (.slice b n n) ∧ rSectors.rd w' (fun k => w.heap.size ≤ k) [.slice b n n] L ∧ Below w.heap.size w w' := by
  obtain ⟨hl, hn, hc⟩ := rPads_len h
  have HL : Hid _ := hl
  clear hl
  go_enter Try.func37, Try.ntmps37
  go_wp2_with (at_make; refine make_row _ rfl _ _ 22 rfl 26 (.slice none 0 0) 24 Try.underlying22 info_bytes rfl n _ rfl rfl rfl (by omega) (by omega) ?_; intro w1 HR b1 z1)
  go_loopw [10] (fun i wr => ∃ (k : Nat) (vs : List Value), k ≤ n ∧ i = .int .i64 k ∧ Hid (vs.length = k) ∧ Hid (Row wr w.heap.size 26 (vs ++ List.replicate (n - k) (.slice none 0 0))) ∧ Hid (rdAll rBytes wr (fun b => w.heap.size < b) vs (L.take k)) ∧ Below w.heap.size w wr) (fun i _ => n - (intOf i).toNat)
  case atStart => exact ⟨0, [], Nat.zero_le _, rfl, rfl, HR, rfl, b1⟩
  case round =>
    obtain ⟨k, vs, hk, rfl, HV, HR2, HD, bel⟩ := hrel
    clear HR
    by_cases hlt : k < n
    · have hAr := Rep.below h bel
      obtain ⟨g, off, rfl, -, hgl, hat⟩ := rPads_at hAr (by omega)
      have hkl : k < L.length := by rw [HL.out]; exact hlt
      obtain ⟨x, m, d, l, hx, hl, hcell⟩ := hat k hkl
      have HT : Hid (L.take (k + 1) = L.take k ++ [lay l]) := by unfold Hid; rw [List.take_succ_eq_append_getElem hkl, hl]
      clear hat hl hAr
      have hgb : w.heap.size < wr.heap.size := HR2.out.lt
      go_wp2_with (go_at_call 42; refine (laid_u _ _ x m d l hx).mono ?_; rintro e w5 ⟨b5, rfl, hr5, bb5⟩; have HR5 : Hid _ := HR2.out.below bb5; have c5 := HR5.out.cell (at_mid HV.out hlt); have f5 := HR5.out.frozen k)
      go_roundw
      case rel =>
        refine ⟨k + 1, vs ++ [.slice b5 64 64], by omega, by go_num, by unfold Hid; simp [HV.out], ?_, ?_, (on bel bb5).setCell (p := ⟨w.heap.size, k, none⟩) (Nat.le_refl _) _⟩
        · have h6 := HR5.out.set k (.slice b5 64 64)
          rw [show n - k = (n - (k + 1)) + 1 from by omega, set_mid HV.out] at h6
          exact h6
        · unfold Hid
          rw [HT.out]
          refine rdAll_keep (w := w5) (fun b hb hl => Below.heap_setCell _ _ _ _ (fun e => by have h1 : w.heap.size < b := hb; have h2 : b = w.heap.size := e; omega)) (rdAll_append (rdAll_keep (fun b hb hl => bb5.block b hl) HD.out) (rdAll_one_elem (rBytes.weaken hr5 (fun b hb _ => by have : wr.heap.size ≤ b := hb; omega))))
      case measure => simp [intOf]; omega
    · obtain rfl : k = n := by omega
      rw [List.take_of_length_le (by rw [HL.out]; exact Nat.le_refl _)] at HD
      rw [Nat.sub_self, List.replicate_zero, List.append_nil] at HR2
      go_wp2
      go_ret
      exact ⟨_, rfl, rd_row HR2.out (fun j v h => h) (rdAll_weaken (fun b hb _ => Nat.le_of_lt hb) HD.out) HL.out (Nat.le_refl _) (by show k * 24 ≤ _; omega) (Nat.le_refl _), bel⟩

/-- A variable of three cells, written whole. -/
theorem Var3.whole {w : World} {b : Nat} {x y z : Value} (V : Var3 w b x y z) (u0 u1 u2 : Value) :
    Var3 (((w.setCell ⟨b, 0, none⟩ u0).setCell ⟨b, 1, none⟩ u1).setCell ⟨b, 2, none⟩ u2) b u0 u1 u2 ∧ Kept (· ≠ b) w (((w.setCell ⟨b, 0, none⟩ u0).setCell ⟨b, 1, none⟩ u1).setCell ⟨b, 2, none⟩ u2) :=
  ⟨((V.set0 u0).set1 u1).set2 u2, (((Kept.refl _ w).setCell (p := ⟨b, 0, none⟩) (fun h => h rfl) u0).setCell (p := ⟨b, 1, none⟩) (fun h => h rfl) u1).setCell (p := ⟨b, 2, none⟩) (fun h => h rfl) u2⟩

theorem same_drew {w w' : World} (h : Below w.drew.heap.size w.drew w') : Below w.heap.size w w' := ⟨h.os, h.tape, h.output, h.size, h.block⟩

theorem rBytes_nil (w : World) (P : Nat → Prop) : rBytes.rd w P [.slice none 0 0] [] := ⟨none, 0, 0, rfl, rfl, Nat.le_refl _, fun _ => rfl, by decide, fun x hx => by cases hx⟩

set_option maxHeartbeats 1000000 in
theorem copiedAct_u (w : World) (P : Nat → Prop) (a : Act) (x : Option Addr) (m d : Nat) (cp : Int) (hx : rBytes.rd w P [.slice x m d] a.2.2) (hok : Hst.actOk cp a = true) :
    Calls Try.prog 50 #[.agg #[.int .i64 a.1, .int .i64 a.2.1, .slice x m d]] w fun e w' => ∃ b k c, e = .returned (.agg #[.int .i64 a.1, .int .i64 a.2.1, .slice b k c]) ∧ rBytes.rd w' (fun k => w.heap.size ≤ k) [.slice b k c] a.2.2 ∧ Below w.heap.size w w' := by
  obtain ⟨what, pos, X⟩ := a
  have hxl : X.length = m := (rBytes_isB hx).1.1
  obtain ⟨w0, hw0, p0, p1, p2, b0, z0⟩ := boxed3 w 67 (.int .i64 what) (.int .i64 pos) (.slice x m d)
  obtain ⟨w1, hw1, -, -, -, b1, z1⟩ := boxed3 w0 67 (.int .i64 0) (.int .i64 0) (.slice none 0 0)
  have v1 : Var3 w1 w0.heap.size (.int .i64 0) (.int .i64 0) (.slice none 0 0) := by rw [← hw1]; exact var3_new _ _ _ _ _
  have x0 : Var3 w0 w.heap.size (.int .i64 what) (.int .i64 pos) (.slice x m d) := by rw [← hw0]; exact var3_new _ _ _ _ _
  have x1 := x0.below b1
  have q0 := x1.c0
  have q1 := x1.c1
  have q2 := x1.c2
  rw [z0] at v1
  have r0 := v1.c0
  have r1 := v1.c1
  have r2 := v1.c2
  have f0 := v1.f 0
  have f1 := v1.f 1
  have f2 := v1.f 2
  have bel := on b0 b1
  have hx1 := Rep.below hx bel
  have HL : Hid _ := hxl
  have hs1 : w1.heap.size = w.heap.size + 2 := by omega
  have V1 : Hid _ := v1
  have X1 : Hid _ := x1
  clear hxl p0 p1 p2 x0 hx b0 b1 v1 x1
  rcases Hst.act_one_two hok with ⟨h1, -, -, h4⟩ | ⟨h1, -, -, h4⟩
  · simp only at h1 h4
    have HF : Hid (lay X = X) := lay_full h4
    clear h4 hok
    subst h1
    go_enter Try.func50, Try.ntmps50
    go_wp2
    have hxd : rBytes.rd w1.drew P [.slice x m d] X := hx1
    go_region_law (go_simp; go_at_call 42; refine (laid_u _ _ x m d _ hxd).mono ?_; rintro e w5 ⟨b5, rfl, hr5, bd5⟩; have bb5 := same_drew bd5; clear bd5; have V5 : Hid _ := V1.out.below bb5; have X5 : Hid _ := X1.out.below bb5; have a0 := X5.out.c0; have a1 := X5.out.c1; have a2 := X5.out.c2; have d0 := V5.out.c0; have d1 := V5.out.c1; have d2 := V5.out.c2; have g0 := V5.out.f 0; have g1 := V5.out.f 1; have g2 := V5.out.f 2)
    all_goals go_wp2
    all_goals
      have T := V5.out.whole (.int .i64 1) (.int .i64 pos) (.slice b5 64 64)
      refine bodyPost_ret (results_var3 rfl rfl T.1 Try.underlying67 rfl (by kernel_rfl)) rfl ⟨b5, 64, 64, rfl, ?_, Kept.belowOf (on bel bb5) T.2 (by omega)⟩
      rw [HF.out] at hr5
      exact rBytes.weaken (Rep.kept hr5 T.2 (fun b hb _ => by have h1 : w1.heap.size ≤ b := hb; show b ≠ _; omega)) (fun b hb _ => by have h1 : w1.heap.size ≤ b := hb; omega)
  · simp only at h1 h4
    subst h1
    have hX : X = [] := List.eq_nil_of_length_eq_zero h4
    subst hX
    go_enter Try.func50, Try.ntmps50
    go_wp2
    have T := V1.out.whole (.int .i64 2) (.int .i64 pos) (.slice none 0 0)
    exact bodyPost_ret (results_var3 rfl rfl T.1 Try.underlying67 rfl (by kernel_rfl)) rfl ⟨none, 0, 0, rfl, rBytes_nil _ _, Kept.belowOf bel T.2 (by omega)⟩

end Go.Proofs.Ytckcicomkapdeaa
