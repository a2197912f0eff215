/-
  Facts that the proof rests on, part 26. Conditions: those that each of them names.
-/
import Derived.Test.YtkbmadoaomoojaaGreatK24
namespace Go.Proofs.YtkbmadoaomoojaaGreat
set_option maxRecDepth 20000
open Go.RowKit
set_option linter.unusedVariables false
theorem elem_pages : ElemOf Tryz.prog 68 53 rBytes := elemOf (z := .slice none 0 0) Tryz.underlying68 (by kernel_rfl) rfl rfl rfl (by decide)
theorem rBytes_nil (w : World) (P : Nat → Prop) : rBytes.rd w P [.slice none 0 0] [] :=
 ⟨none, 0, 0, rfl, rfl, Nat.le_refl _, fun _ => rfl, by simp, fun x h => by cases h⟩
theorem run_append_free {w : World} {base : Nat} {v : Value} {s : Pgs} (h : Pgd w base v s) (hl : s.length ≤ 2048) (hb : base ≤ w.heap.size) (ty : TypeId) :
 ∃ v' w', (Builtin.append_ #[68, 68] ty #[v, .slice (some ⟨w.heap.size, 0, none⟩) 1 1]).run Tryz.prog (w.alloc (.cells #[.slice none 0 0] 53)) = .ok v' w' ∧ Pgd w' base v' (s ++ [[]]) ∧ Grew (w.alloc (.cells #[.slice none 0 0] 53)) w' v v' := by
 obtain ⟨ht, i, z, hi, hz, hsize, hby, hzs, hpos⟩ := elem_pages
 have b0 : Below w.heap.size w (w.alloc (.cells #[.slice none 0 0] 53)) := (Below.refl _ _).alloc (Nat.le_refl _) _
 have hlt := h.lt
 obtain ⟨xs, h1, h2⟩ := h.below b0
 obtain ⟨v', w', hr, k1, k2, -, k4⟩ := run_append_own_at (P := Tryz.prog) (w.alloc (.cells #[.slice none 0 0] 53)) base 68 ty 53 i z 1 24 ht hi hz hsize hby hzs (by decide) v s.length xs h1 ⟨w.heap.size, 0, none⟩ 1 1 [.slice none 0 0] rfl
  (cell_one_new _ _ _) (fun u hu => by simp at hu; subst hu; rfl) (by unfold maxLen; omega) (by omega) (by simp; omega)
 refine ⟨v', w', hr, ⟨xs ++ [.slice none 0 0], by simpa using k1, Each.append ⟨h2.len, fun j u x hu hx => ?_⟩ ⟨rfl, fun j u x hu hx => ?_⟩⟩, ⟨k2, fun b' e => ?_⟩⟩
 · have h3 := h2.rd j u x hu hx
   have hkk : ∀ b, Lie (w.alloc (.cells #[.slice none 0 0] 53)) base v b → w'.heap[b]? = (w.alloc (.cells #[.slice none 0 0] 53)).heap[b]? := fun b hb => k2.block b hb.2.1.lt (fun e => hb.2.2 e.symm)
   refine rBytes.weaken (rBytes.keep h3 (fun b hb _ => hkk b hb)) (fun b hb _ => ⟨hb.1, hb.2.1.keep (hkk b hb), fun e => ?_⟩)
   rcases k4 with k | k
   · exact hb.2.2 (k.symm.trans e)
   · rw [e] at k
     simp only [Option.some.injEq] at k
     have := hb.2.1.lt
     omega
 · cases j with
   | zero =>
     simp only [List.getElem?_cons_zero, Option.some.injEq] at hu hx
     subst hu
     subst hx
     exact rBytes_nil _ _
   | succ j => simp at hu
 · rcases k4 with k | k
   · exact .inl (k.symm.trans e)
   · exact .inr (by rw [e] at k; simp only [Option.some.injEq] at k; omega)
theorem isFree_u (w : World) (x : Option Addr) (m d : Nat) : Calls Tryz.prog 103 #[.slice x m d] w fun e w' => e = .returned (.bool (decide ((m : Int) = 0))) ∧ w' = w := by
 go_enter Tryz.func103, Tryz.ntmps103
 go_wp2
 go_ret
 exact ⟨rfl, rfl⟩
namespace Tr
def freeAt (s : Pgs) : Int := match s.findIdx? (fun b => b.isEmpty) with
 | some i => (i : Int)
 | none => -1
end Tr
set_option maxHeartbeats 2000000 in
theorem indexFree_u (w : World) (P : Nat → Prop) (a : Option Addr) (n c : Nat) (s : Pgs) (hR : rSectors.rd w P [.slice a n c] s) :
 Calls Tryz.prog 102 #[.slice a n c, .func (.func 103) #[] #[]] w fun e w' => e = .returned (.int .i64 (Tr.freeAt s)) ∧ w' = w := by
 obtain ⟨hl, hn⟩ := rSectors_len hR
 have HL : Hid (s.length = n) := hl
 have HR : Hid _ := hR
 clear hl hR
 go_enter Tryz.func102, Tryz.ntmps102
 go_wp2
 go_loop [8] (fun i => ∃ k : Nat, k ≤ n ∧ i = .int .i64 k ∧ Hid (∀ j (h : j < s.length), j < k → s[j].isEmpty = false)) (fun i => n - (intOf i).toNat)
 case atStart => exact ⟨0, Nat.zero_le _, rfl, (fun j _ h => by omega)⟩
 case round =>
  obtain ⟨k, hk, rfl, HK⟩ := hrel
  by_cases hlt : k < n
  · have hkl : k < s.length := by rw [HL.out]; exact hlt
    obtain ⟨g, off, rfl, -, -, hat⟩ := rLists_at HR.out (by omega)
    obtain ⟨x, m, d, hpg, hml, cp⟩ := hat k hkl
    have hkz : (k : Int) < (n : Int) := by omega
    have HF : Hid (s[k].isEmpty = decide ((m : Int) = 0)) := by
     unfold Hid
     rw [Bool.eq_iff_iff, List.isEmpty_iff, decide_eq_true_eq, ← List.length_eq_zero_iff, hml]
     omega
    clear hat hpg hml
    by_cases hm : m = 0
    · have HE : Hid (Tr.freeAt s = (k : Int)) := by
       unfold Hid Tr.freeAt
       rw [List.findIdx?_eq_some_iff_getElem.2 ⟨hkl, by rw [HF.out]; simpa using hm, fun j hj => by rw [HK.out j (by omega) hj]; decide⟩]
      subst hm
      go_wp2_with (go_at_call 103; refine (isFree_u _ _ _ _).mono ?_; rintro e w' ⟨rfl, rfl⟩)
      go_ret
      exact ⟨by rw [HE.out]; rfl, rfl⟩
    · have hmz : decide ((m : Int) = 0) = false := decide_eq_false (by omega)
      have HN : Hid (∀ j (h : j < s.length), j < k + 1 → s[j].isEmpty = false) := fun j hj hjk => by
       by_cases e : j = k
       · subst e; rw [HF.out]; exact hmz
       · exact HK.out j hj (by omega)
      go_wp2_with (go_at_call 103; refine (isFree_u _ _ _ _).mono ?_; rintro e w' ⟨rfl, rfl⟩)
      go_round
      case rel => exact ⟨k + 1, by omega, by go_num, HN⟩
      case measure => simp [intOf]; omega
  · have HE : Hid (Tr.freeAt s = -1) := by
     unfold Hid Tr.freeAt
     rw [List.findIdx?_eq_none_iff.2 (fun b hb => by
      obtain ⟨j, hj, rfl⟩ := List.mem_iff_getElem.1 hb
      exact HK.out j hj (by rw [HL.out] at hj; omega))]
    obtain rfl : k = n := by omega
    go_wp2
    go_ret
    exact ⟨by rw [HE.out]; rfl, rfl⟩
structure Wr (w : World) (g base : Nat) (v : Value) (s : Pgs) (kv tv : Value) : Prop where
 row : Row w g 107 [v, kv, tv]
 pgs : Pgd w base v s
 few : s.length ≤ 2048
 size : base ≤ w.heap.size
def WS (g : Nat) (v : Value) : List Nat := g :: v.ownBlock.toList
theorem mem_WS {g : Nat} {v : Value} {b : Nat} : b ∈ WS g v ↔ b = g ∨ v.ownBlock = some b := by
 unfold WS
 cases v.ownBlock <;> simp [eq_comm]
structure WTurn (g : Nat) (v : Value) (w : World) (v' : Value) (w' : World) : Prop where
 turn : Turn (WS g v) w w'
 place : ∀ b, v'.ownBlock = some b → v.ownBlock = some b ∨ w.heap.size ≤ b
theorem WTurn.of {g : Nat} {v : Value} {w w' : World} (h : Below w.heap.size w w') : WTurn g v w v w' := ⟨Turn.of h, fun b e => .inl e⟩
theorem WTurn.out {g : Nat} {v v' : Value} {w w' : World} (h : WTurn g v w v' w') {b : Nat} (hb : b < w.heap.size) (hn : b ∉ WS g v) : b ∉ WS g v' := fun e => by
 rcases mem_WS.1 e with e | e
 · exact hn (mem_WS.2 (.inl e))
 · rcases h.place b e with k | k
   · exact hn (mem_WS.2 (.inr k))
   · omega
theorem WTurn.trans {g : Nat} {v v1 v2 : Value} {w w1 w2 : World} (h : WTurn g v w v1 w1) (k : WTurn g v1 w1 v2 w2) : WTurn g v w v2 w2 :=
 ⟨⟨k.turn.os.trans h.turn.os, k.turn.tape.trans h.turn.tape, k.turn.output.trans h.turn.output, Nat.le_trans h.turn.size k.turn.size, fun i hi => (k.turn.block i ⟨Nat.lt_of_lt_of_le hi.1 h.turn.size, h.out hi.1 hi.2⟩).trans (h.turn.block i hi)⟩,
   fun b e => (k.place b e).elim (h.place b) (fun q => .inr (Nat.le_trans h.turn.size q))⟩
theorem Wr.below {w w' : World} {g base : Nat} {v : Value} {s : Pgs} {kv tv : Value} (h : Wr w g base v s kv tv) (b : Below w.heap.size w w') : Wr w' g base v s kv tv :=
 ⟨h.row.below b, h.pgs.below b, h.few, Nat.le_trans h.size b.size⟩
theorem Wr.put {w : World} {g base : Nat} {v : Value} {s : Pgs} {kv tv : Value} (h : Wr w g base v s kv tv) {r : Nat} {o : Obj} (o' : Obj) (hr : w.heap[r]? = some o) (ho : o.isCells = false) : Wr (w.putObj r o') g base v s kv tv :=
 ⟨h.row.keep (World.putObj_heap_other (fun e => by have := h.row.eq; rw [e, hr] at this; cases this; cases ho)), h.pgs.put o' hr ho, h.few, by have := h.size; simpa [World.putObj] using this⟩
theorem Wr.gb {w : World} {g base : Nat} {v : Value} {s : Pgs} {kv tv : Value} (h : Wr w g base v s kv tv) : g < w.heap.size := h.row.lt
theorem Pgd.typed {w : World} {base : Nat} {v : Value} {s : Pgs} (h : Pgd w base v s) : ∀ b, v.ownBlock = some b → ∃ c z, w.heap[b]? = some (.cells c 53 z) := fun b hb => by
 obtain ⟨xs, h1, -⟩ := h
 rcases h1.2 with ⟨rfl, h0⟩ | ⟨g, cap, cur, rfl, g1, g2, -⟩
 · cases hb
 · cases hb; exact ⟨_, _, g2⟩
theorem Pgd.notW {w : World} {base g : Nat} {v : Value} {s : Pgs} {xs : List Value} (h : Pgd w base v s) (hr : Row w g 107 xs) : ∀ b, ByteB w b ∨ v.ownBlock = some b → b ≠ g := fun b hb e => by
 subst e
 rcases hb with ⟨c, z, e⟩ | e
 · rw [hr.eq] at e; cases e
 · obtain ⟨c, z, e⟩ := h.typed _ e
   rw [hr.eq] at e; cases e
theorem Wr.ne {w : World} {g base : Nat} {v : Value} {s : Pgs} {kv tv : Value} (h : Wr w g base v s kv tv) : v.ownBlock ≠ some g := fun e => h.pgs.notW h.row g (.inr e) rfl
theorem Pgd.some_ {w : World} {base : Nat} {v : Value} {s : Pgs} (h : Pgd w base v s) {i : Nat} (hi : i < s.length) : ∃ gp c, v = .slice (some ⟨gp, 0, none⟩) s.length c ∧ (∃ x m d, w.cell? ⟨gp, i, none⟩ = some (.slice x m d)) ∧ w.frozen? ⟨gp, i, none⟩ = false := by
 obtain ⟨xs, h1, h2⟩ := h
 rcases h1.2 with ⟨rfl, h0⟩ | ⟨gp, cap, cur, rfl, g1, g2, g3, g4, g5, g6⟩
 · omega
 · have R : Row w gp 53 cur.toList := ⟨by simpa using g2⟩
   refine ⟨gp, cap, rfl, ?_, R.frozen i⟩
   have hxi : i < xs.length := by rw [h2.len]; exact hi
   obtain ⟨x, m, d, e, -⟩ := h2.rd i xs[i] s[i] (List.getElem?_eq_getElem hxi) (List.getElem?_eq_getElem hi)
   simp only [List.cons.injEq, and_true] at e
   refine ⟨x, m, d, R.cell ?_⟩
   have hx : xs[i]? = some (.slice x m d) := by rw [List.getElem?_eq_getElem hxi, e]
   rw [← g6] at hx
   rw [List.getElem?_take] at hx
   split at hx
   · exact hx
   · cases hx
theorem rBytes_new {w w' : World} {base : Nat} {v : Value} {x : Option Addr} {m d : Nat} {l : List UInt8} (h : w'.ownsRow w.heap.size 5 1 (.slice x m d) m (cellsOf l)) (hm : m ≤ 64) (hb : base ≤ w.heap.size) (hv : ∀ b, v.ownBlock = some b → b < w.heap.size) : rBytes.rd w' (Lie w' base v) [.slice x m d] l := by
 rcases h.2 with ⟨e, h0⟩ | ⟨g, cap, cur, e, g1, g2, g3, g4, g5, g6⟩
 · simp only [Value.slice.injEq] at e
   obtain ⟨rfl, rfl, rfl⟩ := e
   have hl : l = [] := by
    have := h.1
    simpa [cellsOf] using this
   rw [hl]
   exact rBytes_nil _ _
 · have hr := rBytes_owned (base := w.heap.size) h (by omega)
   simp only [Value.slice.injEq] at e
   obtain ⟨rfl, -, rfl⟩ := e
   obtain ⟨a', n', c', e, q1, q2, q3, q4, q5⟩ := hr
   simp only [List.cons.injEq, Value.slice.injEq, and_true] at e
   obtain ⟨rfl, rfl, rfl⟩ := e
   refine ⟨_, _, _, rfl, q1, q2, q3, q4, fun y hy j hj => ?_⟩
   simp only [Option.some.injEq] at hy
   subst hy
   obtain ⟨p1, cj, p2, p3⟩ := q5 _ rfl j hj
   exact ⟨⟨by show base ≤ g; omega, ⟨_, _, g2⟩, fun e => by have := hv g e; omega⟩, cj, p2, p3⟩
namespace Tr
theorem slot_of {s : Pgs} : (freeAt s < 0 → slot s = s.length) ∧ (∀ i : Nat, freeAt s = (i : Int) → slot s = i ∧ i < s.length) := by
 unfold freeAt slot
 cases h : s.findIdx? (fun b => b.isEmpty) with
 | none => exact ⟨(fun _ => rfl), (fun i hi => by simp only at hi; omega)⟩
 | some k =>
   have hk := (List.findIdx?_eq_some_iff_getElem.1 h).1
   refine ⟨(fun h => by simp only at h; omega), fun i hi => ?_⟩
   simp only at hi
   have : k = i := by omega
   subst this
   exact ⟨rfl, hk⟩
end Tr
def AddDone (s : Pgs) (n : Nod) (g base : Nat) (v kv tv : Value) (w : World) (e : Ending) (w' : World) : Prop :=
 (∀ x, Tr.add s n = .error x → e = broke x ∧ Turn (WS g v) w w') ∧ (∀ s' q, Tr.add s n = .ok (s', q) → e = .returned (.int .i64 q) ∧ ∃ v', Wr w' g base v' s' kv tv ∧ WTurn g v w v' w')
theorem AddDone.no {s : Pgs} {n : Nod} {g base : Nat} {v kv tv : Value} {w : World} {w' : World} {x : Int} (h : Tr.add s n = .error x) (t : Turn (WS g v) w w') : AddDone s n g base v kv tv w (broke x) w' :=
 ⟨(fun y hy => by rw [h] at hy; cases hy; exact ⟨rfl, t⟩), (fun s' q hq => by rw [h] at hq; cases hq)⟩
theorem AddDone.yes {s s' : Pgs} {n : Nod} {g base : Nat} {v kv tv v' : Value} {w : World} {e : Ending} {w' : World} {q : Int} (h : Tr.add s n = .ok (s', q)) (he : e = .returned (.int .i64 q)) (hW : Wr w' g base v' s' kv tv) (t : WTurn g v w v' w') : AddDone s n g base v kv tv w e w' :=
 ⟨(fun y hy => by rw [h] at hy; cases hy), (fun s2 q2 hq => by rw [h] at hq; cases hq; exact ⟨he, v', hW, t⟩)⟩
set_option maxHeartbeats 8000000 in
theorem add_u (w : World) (g base : Nat) (v : Value) (s : Pgs) (kv tv : Value) (hW : Wr w g base v s kv tv) (P : Nat → Prop) (a a' : Option Addr) (n c n' c' : Nat) (l : List Itm) (ks : List Int) (hL : rItms.rd w P [.slice a n c] l) (hK : rKids.rd w P [.slice a' n' c'] ks) (hP : ∀ b, P b → b ∉ WS g v) :
 Calls Tryz.prog 77 #[.pointer (some ⟨g, 0, none⟩), .agg #[.slice a n c, .slice a' n' c']] w fun e w' => AddDone s (l, ks) g base v kv tv w e w' := by
 have HWr : Hid _ := hW
 have HP : Hid _ := hP
 obtain ⟨pa, pc, rfl, hpl, hpn⟩ := hW.pgs.slice
 obtain ⟨w0, hw0, V0, b0, z0⟩ := boxedRow w 63 [.slice a n c, .slice a' n' c']
 have B0 : Hid _ := b0
 have W0 : Hid (Wr w0 g base (.slice pa s.length pc) s kv tv) := hW.below b0
 have r0 := W0.out.row.cell (j := 0) rfl
 have f0 := W0.out.row.frozen 0
 obtain ⟨y0, y1⟩ := V0.two
 have HV0 : Hid _ := V0
 have hL0 := hL
 have hK0 := hK
 have HRd : Hid _ := W0.out.pgs.rd hW.few
 have hsl : s.length ≤ 2048 := hW.few
 obtain ⟨v, hv⟩ : ∃ v, v = Value.slice pa s.length pc := ⟨_, rfl⟩
 rw [← hv] at HWr HP ⊢
 have HVv : Hid _ := hv
 clear hv hL hK hP hW V0 b0 z0 hpl hpn
 go_enter Tryz.func77, Tryz.ntmps77
 go_wp2_with fail
 go_at_call 102
 refine (indexFree_u _ _ _ _ _ s HRd.out).mono ?_
 rintro e w0 ⟨rfl, rfl⟩
 by_cases hfa : Tr.freeAt s < 0
 · have HSl : Hid (Tr.slot s = s.length) := Tr.slot_of.1 hfa
   by_cases hfull : s.length = 2048
   · have HA : Hid (Tr.add s (l, ks) = .error 51) := by unfold Hid Tr.add; rw [HSl.out, if_pos hfull]
     have hfz : ((s.length : Int) == 2048) = true := beq_iff_eq.2 (by omega)
     have BX : Hid (Turn (WS g v) w w0) := Turn.of B0.out
     clear hfull
     go_wp2
     exact ⟨rfl, AddDone.no HA.out BX.out⟩
   · have hfz : ((s.length : Int) == 2048) = false := beq_eq_false_iff_ne.2 (by omega)
     obtain ⟨wn, hwn⟩ : ∃ wn, w0.alloc (.cells #[.slice none 0 0] 53) = wn := ⟨_, rfl⟩
     obtain ⟨v3, w3, hr3, hp3, g3⟩ := run_append_free W0.out.pgs hsl W0.out.size 68
     rw [hwn] at hr3 g3
     obtain ⟨qa, qn, qc, rfl, hqn⟩ : ∃ a n c, v3 = .slice a n c ∧ n = (s ++ [[]]).length := by obtain ⟨a, c, e, -, -⟩ := hp3.slice; exact ⟨a, _, c, e, rfl⟩
     have HQN : Hid (qn = s.length + 1) := by unfold Hid; rw [hqn]; simp
     clear hqn
     have bn : Below w0.heap.size w0 wn := by rw [← hwn]; exact (Below.refl _ _).alloc (Nat.le_refl _) _
     have Rn := W0.out.row.below bn
     have R3 : Row w3 g 107 [.slice pa s.length pc, kv, tv] := Rn.grew g3 W0.out.ne
     have hne4 : ∀ b, (Value.slice qa qn qc).ownBlock = some b → b ≠ g := fun b hb => hp3.notW R3 b (.inr hb)
     have W4 : Hid (Wr (w3.setCell ⟨g, 0, none⟩ (.slice qa qn qc)) g base (.slice qa qn qc) (s ++ [[]]) kv tv) :=
      ⟨R3.set 0 _, hp3.keep (fun b hb hc => Below.heap_setCell _ _ _ _ (hp3.notW R3 b hc)), by simp; omega, by have := W0.out.size; have := bn.size; have := g3.grown.size; simp [World.setCell]; omega⟩
     have T4 : Hid (WTurn g v w (.slice qa qn qc) (w3.setCell ⟨g, 0, none⟩ (.slice qa qn qc))) := by
      have t1 : WTurn g v w v wn := WTurn.of (on B0.out bn)
      refine t1.trans ⟨?_, fun b e => ?_⟩
      · refine Turn.set (p := ⟨g, 0, none⟩) ?_ (.inr (mem_WS.2 (.inl rfl))) _
        exact ⟨g3.grown.os, g3.grown.tape, g3.grown.output, g3.grown.size, fun b hb => g3.grown.block b hb.1 (fun e => hb.2 (mem_WS.2 (.inr (by rw [HVv.out]; exact e.symm))))⟩
      · rw [HVv.out]; exact g3.place b e
     have s0 := R3.cell (j := 0) rfl
     have s1 := R3.frozen 0
     have HR3 : Hid _ := hr3
     have HV4 : Hid (Row (w3.setCell ⟨g, 0, none⟩ (.slice qa qn qc)) w.heap.size 63 [.slice a n c, .slice a' n' c']) := by
      have h1 : w.heap.size ∉ WS g (Value.slice pa s.length pc) := fun e => by
       rcases mem_WS.1 e with e | e
       · have := HWr.out.gb; omega
       · have := (HWr.out.pgs.lt _ (by rw [HVv.out]; exact e)).2; omega
      have h2 := (HV0.out.below bn)
      refine (h2.keep (g3.grown.block _ h2.lt (fun e => h1 (mem_WS.2 (.inr e.symm))))).keep (Below.heap_setCell _ _ _ _ (fun e => h1 (mem_WS.2 (.inl e))))
     obtain ⟨z0, z1⟩ := HV4.out.two
     obtain ⟨w4, hw4⟩ : ∃ w4, w3.setCell ⟨g, 0, none⟩ (.slice qa qn qc) = w4 := ⟨_, rfl⟩
     rw [hw4] at W4 T4 HV4 z0 z1
     clear hr3 hp3 g3 bn Rn R3 hne4
     go_wp2_with (at_builtin; refine Lib.wpList_append_run _ rfl _ _ _ _ rfl _ _ rfl rfl _ _ HR3.out ?_)
     have HI : Hid (rItms.rd w4 P [.slice a n c] l) := T4.out.turn.rep hL0 (fun b hb _ => HP.out b hb)
     have HK : Hid (rKids.rd w4 P [.slice a' n' c'] ks) := T4.out.turn.rep hK0 (fun b hb _ => HP.out b hb)
     clear hL0 hK0
     go_wp2_with fail
     go_at_call 104
     refine (encode_u _ P P a a' n c n' c' l ks HI.out HK.out).mono ?_
     rintro e w5 ⟨x, m, d, rfl, ho5, b5⟩
     have HO5 : Hid _ := ho5
     have B5 : Hid _ := b5
     clear ho5 b5
     cases hok : Lf.ok (l, ks)
     · have HA : Hid (Tr.add s (l, ks) = .error 9) := by unfold Hid Tr.add; rw [if_neg (by rw [HSl.out]; omega), hok]; rfl
       have hE : Lf.encodeE (l, ks) = 9 := by unfold Lf.encodeE; rw [hok]; rfl
       rw [hE]
       clear hok hE
       go_wp2_with (go_at_call 64; refine (must_no _).mono ?_; rintro e w' ⟨rfl, rfl⟩)
       exact ⟨rfl, AddDone.no HA.out (T4.out.turn.on B5.out)⟩
     · have HA : Hid (Tr.add s (l, ks) = .ok ((s ++ [[]]).set s.length (Lf.enc (l, ks)), (s.length : Int) + 1)) := by unfold Hid Tr.add; rw [if_neg (by rw [HSl.out]; omega), if_pos hok]; rw [HSl.out, Tr.putAt, if_neg (by omega)]; simp
       have hE : Lf.encodeE (l, ks) = 0 := by unfold Lf.encodeE; rw [hok]; rfl
       have hL : Lf.encodeL (l, ks) = Lf.enc (l, ks) := by unfold Lf.encodeL; rw [hok]; rfl
       rw [hE]
       obtain ⟨gp, cp, ev, ⟨x1, m1, d1, hc1⟩, hf1⟩ := (W4.out.pgs.below B5.out).some_ (i := s.length) (show s.length < (s ++ [[]]).length by simp)
       obtain ⟨rfl, -, rfl⟩ : qa = some ⟨gp, 0, none⟩ ∧ True ∧ qc = cp := by simp only [Value.slice.injEq] at ev; exact ⟨ev.1, trivial, ev.2.2⟩
       clear ev
       have hm5 : m ≤ 64 := by
        have h1 := HO5.out.1
        rw [hL] at h1
        have h2 := Lf.enc_len (Lf.ok_iff.1 hok)
        simp [cellsOf, h2] at h1
        omega
       have hrb : rBytes.rd w5 (Lie w5 base (.slice (some ⟨gp, 0, none⟩) qn qc)) [.slice x m d] (Lf.enc (l, ks)) := by
        have := rBytes_new (w := w4) (base := base) (v := Value.slice (some ⟨gp, 0, none⟩) qn qc) HO5.out hm5 W4.out.size (fun b hb => (W4.out.pgs.lt b hb).2)
        rw [hL] at this
        exact this
       have P6 : Hid (Pgd (w5.setCell ⟨gp, s.length, none⟩ (.slice x m d)) base (.slice (some ⟨gp, 0, none⟩) qn qc) ((s ++ [[]]).set s.length (Lf.enc (l, ks)))) := (W4.out.pgs.below B5.out).set (show s.length < (s ++ [[]]).length by simp) hrb
       have R5 : Hid (Row w5 g 107 [Value.slice (some ⟨gp, 0, none⟩) qn qc, kv, tv]) := W4.out.row.below B5.out
       have hgp : g ≠ gp := fun e => W4.out.ne (by rw [e]; rfl)
       have R6 : Hid (Row (w5.setCell ⟨gp, s.length, none⟩ (.slice x m d)) g 107 [Value.slice (some ⟨gp, 0, none⟩) qn qc, kv, tv]) := R5.out.keep (Below.heap_setCell _ _ _ _ (fun e => hgp e))
       have W6 : Hid (Wr (w5.setCell ⟨gp, s.length, none⟩ (.slice x m d)) g base (.slice (some ⟨gp, 0, none⟩) qn qc) ((s ++ [[]]).set s.length (Lf.enc (l, ks))) kv tv) := ⟨R6.out, P6.out, by rw [List.length_set]; exact W4.out.few, by have := W4.out.size; have := B5.out.size; simp [World.setCell]; omega⟩
       have T6 : Hid (WTurn g v w (.slice (some ⟨gp, 0, none⟩) qn qc) (w5.setCell ⟨gp, s.length, none⟩ (.slice x m d))) := T4.out.trans ⟨(Turn.of B5.out).set (p := ⟨gp, s.length, none⟩) (.inr (mem_WS.2 (.inr rfl))) _, fun b e => .inl e⟩
       have r0 := R5.out.cell (j := 0) rfl
       have haz : (s.length : Int) < (qn : Int) := by have := HQN.out; omega
       clear hok hE hL hm5 hrb hgp
       go_wp2_with (go_at_call 64; refine (must_yes _).mono ?_; rintro e w' ⟨rfl, rfl⟩)
       go_ret
       exact AddDone.yes HA.out rfl W6.out T6.out
 · obtain ⟨i, hi⟩ := Int.eq_ofNat_of_zero_le (show 0 ≤ Tr.freeAt s by omega)
   have HSl : Hid (Tr.slot s = i ∧ i < s.length) := Tr.slot_of.2 i hi
   rw [hi]
   clear hfa hi
   have hi2 : ¬ (i : Int) < 0 := by omega
   have HI : Hid (rItms.rd w0 P [.slice a n c] l) := Rep.below hL0 B0.out
   have HK : Hid (rKids.rd w0 P [.slice a' n' c'] ks) := Rep.below hK0 B0.out
   clear hL0 hK0
   go_wp2_with fail
   go_at_call 104
   refine (encode_u _ P P a a' n c n' c' l ks HI.out HK.out).mono ?_
   rintro e w5 ⟨x, m, d, rfl, ho5, b5⟩
   have HO5 : Hid _ := ho5
   have B5 : Hid _ := b5
   clear ho5 b5
   cases hok : Lf.ok (l, ks)
   · have HA : Hid (Tr.add s (l, ks) = .error 9) := by unfold Hid Tr.add; rw [if_neg (by rw [HSl.out.1]; have := HWr.out.few; have := HSl.out.2; omega), hok]; rfl
     have hE : Lf.encodeE (l, ks) = 9 := by unfold Lf.encodeE; rw [hok]; rfl
     rw [hE]
     clear hok hE
     go_wp2_with (go_at_call 64; refine (must_no _).mono ?_; rintro e w' ⟨rfl, rfl⟩)
     exact ⟨rfl, AddDone.no HA.out ((WTurn.of (g := g) (v := v) B0.out).turn.on B5.out)⟩
   · have HA : Hid (Tr.add s (l, ks) = .ok (s.set i (Lf.enc (l, ks)), (i : Int) + 1)) := by unfold Hid Tr.add; rw [if_neg (by rw [HSl.out.1]; have := HWr.out.few; have := HSl.out.2; omega), if_pos hok]; rw [HSl.out.1, Tr.putAt, if_pos HSl.out.2]
     have hE : Lf.encodeE (l, ks) = 0 := by unfold Lf.encodeE; rw [hok]; rfl
     have hL : Lf.encodeL (l, ks) = Lf.enc (l, ks) := by unfold Lf.encodeL; rw [hok]; rfl
     rw [hE]
     obtain ⟨gp, cp, ev, ⟨x1, m1, d1, hc1⟩, hf1⟩ := (W0.out.pgs.below B5.out).some_ (i := i) HSl.out.2
     obtain ⟨rfl, -, rfl⟩ : pa = some ⟨gp, 0, none⟩ ∧ True ∧ pc = cp := by simp only [Value.slice.injEq] at ev; exact ⟨ev.1, trivial, ev.2.2⟩
     clear ev
     have hm5 : m ≤ 64 := by
      have h1 := HO5.out.1
      rw [hL] at h1
      have h2 := Lf.enc_len (Lf.ok_iff.1 hok)
      simp [cellsOf, h2] at h1
      omega
     have hrb : rBytes.rd w5 (Lie w5 base (.slice (some ⟨gp, 0, none⟩) s.length pc)) [.slice x m d] (Lf.enc (l, ks)) := by
      have := rBytes_new (w := w0) (base := base) (v := Value.slice (some ⟨gp, 0, none⟩) s.length pc) HO5.out hm5 W0.out.size (fun b hb => (W0.out.pgs.lt b hb).2)
      rw [hL] at this
      exact this
     have P6 : Hid (Pgd (w5.setCell ⟨gp, i, none⟩ (.slice x m d)) base (.slice (some ⟨gp, 0, none⟩) s.length pc) (s.set i (Lf.enc (l, ks)))) := (W0.out.pgs.below B5.out).set HSl.out.2 hrb
     have R5 : Hid (Row w5 g 107 [Value.slice (some ⟨gp, 0, none⟩) s.length pc, kv, tv]) := W0.out.row.below B5.out
     have hgp : g ≠ gp := fun e => W0.out.ne (by rw [e]; rfl)
     have R6 : Hid (Row (w5.setCell ⟨gp, i, none⟩ (.slice x m d)) g 107 [Value.slice (some ⟨gp, 0, none⟩) s.length pc, kv, tv]) := R5.out.keep (Below.heap_setCell _ _ _ _ (fun e => hgp e))
     have W6 : Hid (Wr (w5.setCell ⟨gp, i, none⟩ (.slice x m d)) g base (.slice (some ⟨gp, 0, none⟩) s.length pc) (s.set i (Lf.enc (l, ks))) kv tv) := ⟨R6.out, P6.out, by rw [List.length_set]; exact W0.out.few, by have := W0.out.size; have := B5.out.size; simp [World.setCell]; omega⟩
     have T6 : Hid (WTurn g v w (.slice (some ⟨gp, 0, none⟩) s.length pc) (w5.setCell ⟨gp, i, none⟩ (.slice x m d))) := (show WTurn g v w (Value.slice (some ⟨gp, 0, none⟩) s.length pc) w0 from by rw [← HVv.out]; exact WTurn.of B0.out).trans ⟨(Turn.of B5.out).set (p := ⟨gp, i, none⟩) (.inr (mem_WS.2 (.inr rfl))) _, fun b e => .inl e⟩
     have r0 := R5.out.cell (j := 0) rfl
     have haz : (i : Int) < (s.length : Int) := by have := HSl.out.2; omega
     clear hok hE hL hm5 hrb hgp
     go_wp2_with (go_at_call 64; refine (must_yes _).mono ?_; rintro e w' ⟨rfl, rfl⟩)
     go_ret
     exact AddDone.yes HA.out rfl W6.out T6.out
namespace Tr
theorem over_next {l : List Brn} (h : l ≠ []) (b : Brn) : over (l ++ [b]) = ((over l).1 ++ [(b.1, 0)], (over l).2 ++ [b.2]) := by
 cases l with
 | nil => exact absurd rfl h
 | cons x l => simp [over]
theorem over_take {g : List Brn} {j : Nat} (h : j < g.length) (h0 : 0 < j) : over (g.take (j + 1)) = ((over (g.take j)).1 ++ [(g[j].1, 0)], (over (g.take j)).2 ++ [g[j].2]) := by
 rw [List.take_succ_eq_append_getElem h, over_next]
 intro e
 have := congrArg List.length e
 rw [List.length_take] at this
 simp only [List.length_nil] at this
 omega
end Tr
set_option maxHeartbeats 8000000 in
theorem nodeOver_u (w : World) (P : Nat → Prop) (a : Option Addr) (n c : Nat) (g : List Brn) (hG : rBrns.rd w P [.slice a n c] g) (hn : n ≤ 1000) (hpg : ∀ b ∈ g, -9223372036854775808 ≤ b.2 ∧ b.2 ≤ 9223372036854775807) :
 Calls Tryz.prog 79 #[.slice a n c] w fun e w' => ∃ ia il ic ka kl kc, e = .returned (.agg #[.slice ia il ic, .slice ka kl kc]) ∧ OwnI 45 w' w.heap.size (.slice ia il ic) (Tr.over g).1 ∧ OwnK 3 w' w.heap.size (.slice ka kl kc) (Tr.over g).2 ∧ Below w.heap.size w w' := by
 have HG : Hid _ := hG
 have HN : Hid (g.length = n) := (rList_len hG).1
 have HPg : Hid _ := hpg
 obtain ⟨w1, hw1, V1, b1, z1⟩ := boxedRow w 63 [.slice none 0 0, .slice none 0 0]
 obtain ⟨w2, hw2, V2, b2, z2⟩ := boxedRow w1 63 [.slice none 0 0, .slice none 0 0]
 have HV1 : Hid (Row w2 w.heap.size 63 [.slice none 0 0, .slice none 0 0]) := V1.below b2
 have HV2 : Hid _ := V2
 have B2 : Hid (Below w.heap.size w w2) := on b1 b2
 have HZ : Hid (w.heap.size < w1.heap.size ∧ w1.heap.size < w2.heap.size) := ⟨by omega, by omega⟩
 clear hG hpg V1 V2 b1 b2 z1 z2
 go_enter Tryz.func79, Tryz.ntmps79
 go_wp2
 go_loopw [8] (fun i wr => ∃ (j : Nat) (ia : Option Addr) (il ic : Nat) (ka : Option Addr) (kl kc : Nat), j ≤ n ∧ i = .int .i64 j ∧ Hid (Row wr w1.heap.size 63 [.slice ia il ic, .slice ka kl kc]) ∧ Hid (Turn [w1.heap.size] w2 wr) ∧
  Hid (OwnI 45 wr w2.heap.size (.slice ia il ic) (Tr.over (g.take j)).1) ∧ Hid (OwnK 3 wr w2.heap.size (.slice ka kl kc) (Tr.over (g.take j)).2) ∧ Hid (∀ b, (Value.slice ia il ic).ownBlock = some b → (Value.slice ka kl kc).ownBlock ≠ some b)) (fun i _ => n - (intOf i).toNat)
 case atStart => exact ⟨0, none, 0, 0, none, 0, 0, Nat.zero_le _, rfl, HV2, Turn.refl _ _, by rw [List.take_zero]; exact OwnI.nil _ _ _, by rw [List.take_zero]; exact OwnK.nil _ _ _, (fun b h => by cases h)⟩
 case round =>
  obtain ⟨j, ia, il, ic, ka, kl, kc, hj, rfl, HR, HT, HI, HK, HD⟩ := hrel
  by_cases hlt : j < n
  · have BR : Below w.heap.size w wr := B2.out.trans (HT.out.below B2.out.size (by have := HZ.out; simp; omega))
    obtain ⟨gb, off, rfl, -, -, hat⟩ := rBrns_at (Rep.below HG.out BR) (by omega)
    have hjg : j < g.length := by rw [HN.out]; exact hlt
    obtain ⟨c0, c1⟩ := hat j hjg
    obtain ⟨Y, hY⟩ : ∃ Y, Y = g[j] := ⟨_, rfl⟩
    have HB : Hid (-9223372036854775808 ≤ Y.2 ∧ Y.2 ≤ 9223372036854775807) := by rw [hY]; exact HPg.out _ (List.getElem_mem hjg)
    rw [← hY] at c0 c1
    have HY : Hid (g[j]'(by rw [HN.out]; exact hlt) = Y) := hY.symm
    have HIl : Hid ((Tr.over (g.take j)).1.length = il) := by obtain ⟨a, c, e, -⟩ := HI.out.slice; simp only [Value.slice.injEq] at e; exact e.2.1.symm
    have HKl : Hid ((Tr.over (g.take j)).2.length = kl) := by obtain ⟨a, c, e, -⟩ := HK.out.slice; simp only [Value.slice.injEq] at e; exact e.2.1.symm
    have hil : il ≤ 1000 := by rw [← HIl.out]; simp [Tr.over]; omega
    have hkl : kl ≤ 1000 := by rw [← HKl.out]; show (List.map _ _).length ≤ _; rw [List.length_map, List.length_take]; omega
    have hjz : (j : Int) < (n : Int) := by omega
    obtain ⟨w3, hw3, V3, b3, z3⟩ := boxedRow wr 133 [.int .u64 (Y.1.toNat : Int), .int .i64 Y.2]
    obtain ⟨t0, t1⟩ := V3.two
    clear hat hY hjg BR
    by_cases hj0 : j = 0
    · subst hj0
      simp only [Nat.zero_mul, Nat.add_zero] at c0 c1
      have HNx : Hid (Tr.over (g.take (0 + 1)) = ((Tr.over (g.take 0)).1, (Tr.over (g.take 0)).2 ++ [Y.2])) := by
       unfold Hid
       rw [List.take_succ_eq_append_getElem (by rw [HN.out]; exact hlt), HY.out]
       simp [Tr.over]
      have KO : Hid _ := HK.out.below b3
      obtain ⟨v7, w7, hr7, ho7, g7⟩ := run_append_kid KO.out Y.2 HB.out (by rw [HKl.out]; omega) (by have := HT.out.size; have := b3.size; omega) 25
      obtain ⟨wk, hwk⟩ : ∃ wk, w3.alloc (.cells #[.int .i64 Y.2] 3) = wk := ⟨_, rfl⟩
      rw [hwk] at hr7 g7
      have bk : Below w3.heap.size w3 wk := by rw [← hwk]; exact (Below.refl _ _).alloc (Nat.le_refl _) _
      obtain ⟨qa, qn, qc, rfl⟩ : ∃ a n c, v7 = .slice a n c := by obtain ⟨a, c, e, -⟩ := ho7.slice; exact ⟨a, _, c, e⟩
      have RK : Row w7 w1.heap.size 63 [.slice ia il ic, .slice ka kl kc] := ((HR.out.below b3).below bk).grew g7 (fun e => by have := (KO.out.row.lt _ e).1; have := HZ.out; omega)
      have HR8 : Hid (Row (w7.setCell ⟨w1.heap.size, 1, none⟩ (.slice qa qn qc)) w1.heap.size 63 [.slice ia il ic, .slice qa qn qc]) := RK.set 1 _
      have IOw : OwnI 45 w3 w2.heap.size (.slice ia il ic) ((Tr.over (g.take 0)).1) := HI.out.below b3
      have I7 : OwnI 45 w7 w2.heap.size (.slice ia il ic) ((Tr.over (g.take 0)).1) := (IOw.below bk).keep1 (fun b hb => g7.grown.block b (Nat.lt_of_lt_of_le (IOw.row.lt b hb).2 bk.size) (fun e => (HD.out) b hb e.symm))
      have HI8 : Hid (OwnI 45 (w7.setCell ⟨w1.heap.size, 1, none⟩ (.slice qa qn qc)) w2.heap.size (.slice ia il ic) (Tr.over (g.take (0 + 1))).1) := by
       rw [HNx.out]
       exact I7.setB (p := ⟨w1.heap.size, 1, none⟩) HZ.out.2 _
      have HK8 : Hid (OwnK 3 (w7.setCell ⟨w1.heap.size, 1, none⟩ (.slice qa qn qc)) w2.heap.size (.slice qa qn qc) (Tr.over (g.take (0 + 1))).2) := by
       rw [HNx.out]
       exact ho7.setB (p := ⟨w1.heap.size, 1, none⟩) HZ.out.2 _
      have HD8 : Hid (∀ b, (.slice ia il ic : Value).ownBlock = some b → (Value.slice qa qn qc).ownBlock ≠ some b) := fun b hb e => by
       rcases g7.place b e with k | k
       · exact (HD.out) b hb k
       · have := (IOw.row.lt b hb).2; have := bk.size; omega
      have HT8 : Hid (Turn [w1.heap.size] w2 (w7.setCell ⟨w1.heap.size, 1, none⟩ (.slice qa qn qc))) := by
       refine Turn.set (p := ⟨w1.heap.size, 1, none⟩) ?_ (.inr (by simp)) _
       have t1 := (HT.out.on b3).on bk
       exact ⟨g7.grown.os.trans t1.os, g7.grown.tape.trans t1.tape, g7.grown.output.trans t1.output, Nat.le_trans t1.size g7.grown.size, fun b hb => (g7.grown.block b (Nat.lt_of_lt_of_le hb.1 t1.size) (fun e => by have := (KO.out.row.lt b e.symm).1; have := hb.1; omega)).trans (t1.block b hb)⟩
      have s0 := RK.cell (j := 0) rfl
      have s1 := RK.cell (j := 1) rfl
      have s2 := RK.frozen 1
      have HRun : Hid _ := hr7
      clear hr7 ho7 g7 RK I7 IOw bk
      obtain ⟨n0, n1⟩ := (HR.out.below b3).two
      clear b3 V3 z3
      go_wp2_with (at_builtin; refine Lib.wpList_append_run _ rfl _ _ _ _ rfl _ _ rfl rfl _ _ HRun.out ?_)
      go_roundw
      case rel => exact ⟨0 + 1, _, _, _, qa, qn, qc, by omega, by go_num, HR8, HT8, HI8, HK8, HD8⟩
      case measure => simp [intOf]; omega
    · have hj1 : (j : Int) > 0 := by omega
      have HNx : Hid (Tr.over (g.take (j + 1)) = ((Tr.over (g.take j)).1 ++ [(Y.1, 0)], (Tr.over (g.take j)).2 ++ [Y.2])) := by
       unfold Hid
       rw [Tr.over_take (by rw [HN.out]; exact hlt) (by omega), HY.out]
      have O3 : OwnI 45 w3 w2.heap.size (.slice ia il ic) (Tr.over (g.take j)).1 := HI.out.below b3
      obtain ⟨v4, w4, hr4, ho4, g4⟩ := run_append_itm O3 (Y.1, 0) (by rw [HIl.out]; omega) (by have := HT.out.size; have := b3.size; omega) 36
      obtain ⟨wi, hwi⟩ : ∃ wi, w3.alloc (.cells #[.int .u64 (Y.1.toNat : Int), .int .u64 0] 45) = wi := ⟨_, rfl⟩
      have hwi2 : w3.alloc (.cells #[.int .u64 (((Y.1, (0 : UInt64)) : Itm).1.toNat : Int), .int .u64 (((Y.1, (0 : UInt64)) : Itm).2.toNat : Int)] 45) = wi := hwi
      rw [hwi2] at hr4 g4
      have bi : Below w3.heap.size w3 wi := by rw [← hwi]; exact (Below.refl _ _).alloc (Nat.le_refl _) _
      obtain ⟨ja, jn, jc, rfl⟩ : ∃ a n c, v4 = .slice a n c := by obtain ⟨a, c, e, -⟩ := ho4.slice; exact ⟨a, _, c, e⟩
      have R4 : Row w4 w1.heap.size 63 [.slice ia il ic, .slice ka kl kc] := ((HR.out.below b3).below bi).grew g4 (fun e => by have := (O3.row.lt _ e).1; have := HZ.out; omega)
      have R5 : Hid (Row (w4.setCell ⟨w1.heap.size, 0, none⟩ (.slice ja jn jc)) w1.heap.size 63 [.slice ja jn jc, .slice ka kl kc]) := R4.set 0 _
      have I5 : Hid (OwnI 45 (w4.setCell ⟨w1.heap.size, 0, none⟩ (.slice ja jn jc)) w2.heap.size (.slice ja jn jc) ((Tr.over (g.take j)).1 ++ [(Y.1, 0)])) := ho4.setB (p := ⟨w1.heap.size, 0, none⟩) HZ.out.2 _
      have K3 : OwnK 3 w3 w2.heap.size (.slice ka kl kc) (Tr.over (g.take j)).2 := HK.out.below b3
      have K4 : OwnK 3 w4 w2.heap.size (.slice ka kl kc) (Tr.over (g.take j)).2 := (K3.below bi).keep1 (fun b hb => g4.grown.block b (Nat.lt_of_lt_of_le (K3.row.lt b hb).2 bi.size) (fun e => HD.out b e.symm hb))
      have K5 : Hid (OwnK 3 (w4.setCell ⟨w1.heap.size, 0, none⟩ (.slice ja jn jc)) w2.heap.size (.slice ka kl kc) (Tr.over (g.take j)).2) := K4.setB (p := ⟨w1.heap.size, 0, none⟩) HZ.out.2 _
      have D5 : Hid (∀ b, (Value.slice ja jn jc).ownBlock = some b → (Value.slice ka kl kc).ownBlock ≠ some b) := fun b hb e => by
       rcases g4.place b hb with k | k
       · exact HD.out b k e
       · have := (K3.row.lt b e).2; have := bi.size; omega
      have T5 : Hid (Turn [w1.heap.size] w2 (w4.setCell ⟨w1.heap.size, 0, none⟩ (.slice ja jn jc))) := by
       refine Turn.set (p := ⟨w1.heap.size, 0, none⟩) ?_ (.inr (by simp)) _
       have t1 := (HT.out.on b3).on bi
       exact ⟨g4.grown.os.trans t1.os, g4.grown.tape.trans t1.tape, g4.grown.output.trans t1.output, Nat.le_trans t1.size g4.grown.size, fun b hb => (g4.grown.block b (Nat.lt_of_lt_of_le hb.1 t1.size) (fun e => by have := (O3.row.lt b e.symm).1; have := hb.1; omega)).trans (t1.block b hb)⟩
      have X4 : Hid (Row (w4.setCell ⟨w1.heap.size, 0, none⟩ (.slice ja jn jc)) wr.heap.size 133 [.int .u64 (Y.1.toNat : Int), .int .i64 Y.2]) := by
       have h1 := V3.below bi
       have hs : w2.heap.size ≤ wr.heap.size := HT.out.size
       refine (h1.grew g4 (fun e => ?_)).setO (p := ⟨w1.heap.size, 0, none⟩) (by have := HZ.out; show w1.heap.size ≠ wr.heap.size; omega) _
       have := (HI.out.row.lt _ e).2
       omega
      obtain ⟨n0, n1⟩ := (HR.out.below b3).two
      have u0 := R4.cell (j := 0) rfl
      have u1 := R4.cell (j := 1) rfl
      have u2 := R4.frozen 0
      have HRun4 : Hid _ := hr4
      have HS5 : Hid (w2.heap.size ≤ (w4.setCell ⟨w1.heap.size, 0, none⟩ (.slice ja jn jc)).heap.size) := T5.out.size
      clear hr4 ho4 g4 bi R4 K3 K4 O3 b3 V3 z3
      obtain ⟨w5, hw5⟩ : ∃ w5, w4.setCell ⟨w1.heap.size, 0, none⟩ (.slice ja jn jc) = w5 := ⟨_, rfl⟩
      rw [hw5] at R5 I5 K5 T5 X4 HS5
      have KO : Hid (OwnK 3 w5 w2.heap.size (.slice ka kl kc) (Tr.over (g.take j)).2) := K5.out
      obtain ⟨v7, w7, hr7, ho7, g7⟩ := run_append_kid KO.out Y.2 HB.out (by rw [HKl.out]; omega) (by have := HT.out.size; have := HS5.out; omega) 25
      obtain ⟨wk, hwk⟩ : ∃ wk, w5.alloc (.cells #[.int .i64 Y.2] 3) = wk := ⟨_, rfl⟩
      rw [hwk] at hr7 g7
      have bk : Below w5.heap.size w5 wk := by rw [← hwk]; exact (Below.refl _ _).alloc (Nat.le_refl _) _
      obtain ⟨qa, qn, qc, rfl⟩ : ∃ a n c, v7 = .slice a n c := by obtain ⟨a, c, e, -⟩ := ho7.slice; exact ⟨a, _, c, e⟩
      have RK : Row w7 w1.heap.size 63 [.slice ja jn jc, .slice ka kl kc] := ((R5.out).below bk).grew g7 (fun e => by have := (KO.out.row.lt _ e).1; have := HZ.out; omega)
      have HR8 : Hid (Row (w7.setCell ⟨w1.heap.size, 1, none⟩ (.slice qa qn qc)) w1.heap.size 63 [.slice ja jn jc, .slice qa qn qc]) := RK.set 1 _
      have IOw : OwnI 45 w5 w2.heap.size (.slice ja jn jc) ((Tr.over (g.take j)).1 ++ [(Y.1, 0)]) := I5.out
      have I7 : OwnI 45 w7 w2.heap.size (.slice ja jn jc) ((Tr.over (g.take j)).1 ++ [(Y.1, 0)]) := (IOw.below bk).keep1 (fun b hb => g7.grown.block b (Nat.lt_of_lt_of_le (IOw.row.lt b hb).2 bk.size) (fun e => (D5.out) b hb e.symm))
      have HI8 : Hid (OwnI 45 (w7.setCell ⟨w1.heap.size, 1, none⟩ (.slice qa qn qc)) w2.heap.size (.slice ja jn jc) (Tr.over (g.take (j + 1))).1) := by
       rw [HNx.out]
       exact I7.setB (p := ⟨w1.heap.size, 1, none⟩) HZ.out.2 _
      have HK8 : Hid (OwnK 3 (w7.setCell ⟨w1.heap.size, 1, none⟩ (.slice qa qn qc)) w2.heap.size (.slice qa qn qc) (Tr.over (g.take (j + 1))).2) := by
       rw [HNx.out]
       exact ho7.setB (p := ⟨w1.heap.size, 1, none⟩) HZ.out.2 _
      have HD8 : Hid (∀ b, (.slice ja jn jc : Value).ownBlock = some b → (Value.slice qa qn qc).ownBlock ≠ some b) := fun b hb e => by
       rcases g7.place b e with k | k
       · exact (D5.out) b hb k
       · have := (IOw.row.lt b hb).2; have := bk.size; omega
      have HT8 : Hid (Turn [w1.heap.size] w2 (w7.setCell ⟨w1.heap.size, 1, none⟩ (.slice qa qn qc))) := by
       refine Turn.set (p := ⟨w1.heap.size, 1, none⟩) ?_ (.inr (by simp)) _
       have t1 := (T5.out).on bk
       exact ⟨g7.grown.os.trans t1.os, g7.grown.tape.trans t1.tape, g7.grown.output.trans t1.output, Nat.le_trans t1.size g7.grown.size, fun b hb => (g7.grown.block b (Nat.lt_of_lt_of_le hb.1 t1.size) (fun e => by have := (KO.out.row.lt b e.symm).1; have := hb.1; omega)).trans (t1.block b hb)⟩
      have s0 := RK.cell (j := 0) rfl
      have s1 := RK.cell (j := 1) rfl
      have s2 := RK.frozen 1
      have HRun : Hid _ := hr7
      clear hr7 ho7 g7 RK I7 IOw bk
      obtain ⟨m0, m1⟩ := R5.out.two
      obtain ⟨x0, x1⟩ := X4.out.two
      go_wp2_with (at_builtin; first | (refine Lib.wpList_append_run _ rfl _ _ _ _ rfl _ _ rfl rfl _ _ HRun4.out ?_) |  (refine Lib.wpList_append_run _ rfl _ _ _ _ rfl _ _ rfl rfl _ _ HRun.out ?_))
      go_roundw
      case rel => exact ⟨j + 1, _, _, _, qa, qn, qc, by omega, by go_num, HR8, HT8, HI8, HK8, HD8⟩
      case measure => simp [intOf]; omega
  · obtain rfl : n = j := by omega
    obtain ⟨n0, n1⟩ := HR.out.two
    have HI9 : Hid (OwnI 45 wr w2.heap.size (.slice ia il ic) (Tr.over g).1) := by have h := HI.out; rw [List.take_of_length_le (by rw [HN.out]; exact Nat.le_refl _)] at h; exact h
    have HK9 : Hid (OwnK 3 wr w2.heap.size (.slice ka kl kc) (Tr.over g).2) := by have h := HK.out; rw [List.take_of_length_le (by rw [HN.out]; exact Nat.le_refl _)] at h; exact h
    have RV : Hid (Row wr w.heap.size 63 [.slice none 0 0, .slice none 0 0]) := HT.out.row HV1.out (by have := HZ.out; simp; omega)
    have BR : Hid (Below w.heap.size w wr) := B2.out.trans (HT.out.below B2.out.size (by have := HZ.out; simp; omega))
    obtain ⟨m0, m1⟩ := RV.out.two
    have f0 := RV.out.frozen 0
    have f1 := RV.out.frozen 1
    have HS : Hid (w.heap.size < w2.heap.size) := by have := HZ.out; unfold Hid; omega
    go_wp2
    exact st_ret1 RV.out BR.out (Nat.le_refl _) _ _ rfl rfl Tryz.underlying63 rfl (by kernel_rfl) (fun w' k' b' => ⟨ia, il, ic, ka, kl, kc, rfl, (HI9.out.keptL k' HS.out).mono (by have := HS.out; omega), (HK9.out.keptL k' HS.out).mono (by have := HS.out; omega), b'⟩)
end Go.Proofs.YtkbmadoaomoojaaGreat
