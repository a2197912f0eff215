/-
  Facts that the proof rests on, part 25. Conditions: those that each of them names.
-/
import Derived.LoopIn
import Derived.LoopNIn
import Derived.MapKept
import Derived.OwnWalkIn
import Derived.RangeFuncBox
import Derived.RangeFuncLeaves
import Derived.RangeFuncNested
import Derived.Shelf.Abstract
import Derived.TacticsInMore
import Derived.WalkKit
import Derived.Test.YtkbmadoaomoojaaGreatK19
import Derived.Test.YtkbmadoaomoojaaGreatK22
import Derived.Test.YtkbmadoaomoojaaGreatK23
namespace Go.Proofs.YtkbmadoaomoojaaGreat
set_option maxRecDepth 20000
set_option linter.unusedVariables false
open Go
def wpAt (f : FuncId) (P : Program) (c : Code) (Q : Exit → Go.Act → World → Prop) (a : Go.Act) (w : World) : Prop :=
 ∀ (b : Frame) (k : List Item) (cs : List Frame), b.roundOf = none → b.fn = f →
   ∃ e a' w', Q e a' w' ∧ ArrivesIn (Machine.fenced P Fence.wide) P (lone (b.atR a (.code c :: k)) cs w) b k cs e a' w'
theorem room_wide (n : Nat) : Fence.wide.room n := fun d h => by cases h
theorem wpAt_of {f : FuncId} {P : Program} {c : Code} {Q : Exit → Go.Act → World → Prop} {a : Go.Act} {w : World} {n : Nat} (h : c.wpIn Fence.wide n P Q a w) : wpAt f P c Q a w :=
 fun b k cs hr _ => h b k cs hr trivial (room_wide _)
theorem wpAt_seq {f : FuncId} {P : Program} {x y : Code} {Q : Exit → Go.Act → World → Prop} {a : Go.Act} {w : World} (h : wpAt f P x (Exit.then (fun a w => wpAt f P y Q a w) Q) a w) : wpAt f P (.seq x y) Q a w := by
 intro b k cs hro hf
 have h0 := fenced_wide P (lone (b.atR a (.code (.seq x y) :: k)) cs w)
 obtain ⟨e, a₁, w₁, hq, harr⟩ := h b (.code y :: k) cs hro hf
 by_cases he : e = .normal
 · subst he
   obtain ⟨e₂, a₂, w₂, hq₂, harr₂⟩ := hq b k cs hro hf
   exact ⟨e₂, a₂, w₂, hq₂, .of_steps (.head h0 stepR_seq harr) harr₂⟩
 · have hq' : Q e a₁ w₁ := by cases e <;> first | exact hq | exact absurd rfl he
   exact ⟨e, a₁, w₁, hq', .of_steps (.one h0 stepR_seq) (.pass (x := .code y) rfl (fun _ _ => .inl he) harr)⟩
def atEnd (Q : Exit → Go.Act → World → Prop) : Exit → Go.Act → World → Prop
 | .normal, a, w => Q .normal a w
 | .panic ch, a, w => Q (.panic ch) a w
 | _, _, _ => False
theorem wpAt_block {f : FuncId} {P : Program} {id : Nat} {c : Code} {Q : Exit → Go.Act → World → Prop} {a : Go.Act} {w : World} (h : wpAt f P c (atEnd Q) a w) : wpAt f P (.block id c) Q a w := by
 intro b k cs hro hf
 have h0 := fenced_wide P (lone (b.atR a (.code (.block id c) :: k)) cs w)
 obtain ⟨e, a₁, w₁, hq, harr⟩ := h b (.inBlock id :: k) cs hro hf
 cases e with
 | normal => exact ⟨.normal, a₁, w₁, hq, .head h0 stepR_block (StepsIn.trans harr (.one (fenced_wide P _) stepR_inBlock))⟩
 | panic ch => exact ⟨_, a₁, w₁, hq, .of_steps (.one h0 stepR_block) harr⟩
 | exit id => exact hq.elim
 | goto l => exact hq.elim
 | ret => exact hq.elim
 | outgrown => exact hq.elim
theorem calls_of_wpAt {P : Program} {f : FuncId} {fn : Func} {c : Code} {args : Array Value} {w : World} {R : Ending → World → Prop} (n : Nat) (hf : P.funcs[f]? = some fn) (hb : fn.body = some c)
 (h : wpAt f P c (bodyPostM Fence.wide n P fn R) { tmps := args ++ Array.replicate (fn.ntmps - args.size) undef, defers := [] } w) : Calls P f args w R := by
 refine (callsIn_wide (n := n)).1 ⟨trivial, fun cs hr => ?_⟩
 let b : Frame := { (default : Frame) with fn := f, kind := .normal, roundOf := none }
 have henter : Frame.enter P f args .normal = b.atR { tmps := args ++ Array.replicate (fn.ntmps - args.size) undef, defers := [] } [.code c] := by simp [Frame.enter, Frame.atR, hf, hb, b]
 obtain ⟨e, a', w', hq, harr⟩ := h b [] cs rfl rfl
 rw [← henter] at harr
 cases e with
 | normal =>
   obtain ⟨e', w'', fr', hR, hs, hfn, hl⟩ := leaves_stepsInM a'.defers .returning w' { b.atR a' [] with mode := .returning } cs rfl rfl rfl hf rfl trivial hr hq
   exact ⟨e', w'', fr', hR, ComesIn.of_steps (StepsIn.trans harr (.one (fenced_wide P _) (stepR_end rfl))) hs, hfn, hl⟩
 | ret =>
   obtain ⟨todo, hs₀⟩ := harr.1 rfl
   obtain ⟨e', w'', fr', hR, hs, hfn, hl⟩ := leaves_stepsInM a'.defers .returning w' { b.atR a' todo with mode := .returning } cs rfl rfl rfl hf rfl trivial hr hq
   exact ⟨e', w'', fr', hR, ComesIn.of_steps hs₀ hs, hfn, hl⟩
 | panic ch =>
   obtain ⟨todo, hs₀⟩ := harr
   obtain ⟨e', w'', fr', hR, hs, hfn, hl⟩ := leaves_stepsInM a'.defers (.panicking ch) w' { b.atR a' todo with mode := .panicking ch } cs rfl rfl rfl hf rfl trivial hr hq
   exact ⟨e', w'', fr', hR, ComesIn.of_steps hs₀ hs, hfn, hl⟩
 | exit id => exact hq.elim
 | goto l => exact hq.elim
 | outgrown => exact ⟨.outgrown, w', b, hq, harr.resolve_left (by simp [b]), rfl, trivial⟩
def roundEnds (P : Program) (l : Nat) (R : Ending → World → Prop) : Exit → Go.Act → World → Prop
 | .normal, _, w => ∃ v w', (Instr.endRound l none).run P w = .ok v w' ∧ R (.returned v) w'
 | .panic ch, a, w => a.defers = [] ∧ R (.panicked ch) w
 | _, _, _ => False
theorem roundIn_ends {P : Program} {n l : Nat} {f : FuncId} {fn : Func} {tmps : Array Value} {assign body : Code} {w : World} {R : Ending → World → Prop} (hf : P.funcs[f]? = some fn)
 (h : assign.wpIn (Fence.wide.inRound l) n P (Exit.then (fun a₁ w₁ => ∃ w₂, (Instr.beginRound l).run P w₁ = .ok () w₂ ∧ body.wpIn (Fence.wide.inRound l) n P (roundEnds P l R) a₁ w₂) (fun _ _ _ => False)) { tmps := tmps, defers := [] } w) :
 RoundIn Fence.wide n P l f tmps assign body w R := by
 refine ⟨trivial, fun c cs hr => ?_⟩
 let b : Frame := { (default : Frame) with fn := f, kind := .normal, roundOf := some l }
 have hb0 : Frame.round l f tmps assign body .normal = b.atR { tmps := tmps, defers := [] } [.code assign, .beginRound, .code body] := by simp [Frame.round, Frame.atR, b]
 have hI : ∀ m, Machine.fenced P Fence.wide m := fun m => fenced_wide P m
 obtain ⟨e, a₁, w₁, hq, harr⟩ := h b [.beginRound, .code body] (c :: cs) rfl trivial (room_wide _)
 rw [← hb0] at harr
 cases e with
 | normal =>
   obtain ⟨w₂, hbr, hbody⟩ := hq
   have s1 : StepsIn (Machine.fenced P Fence.wide) P (lone (b.atR a₁ [.beginRound, .code body]) (c :: cs) w₁) (lone (b.atR a₁ [.code body]) (c :: cs) w₂) := .one (hI _) (stepR_beginRound rfl hbr)
   obtain ⟨e₂, a₂, w₃, hq₂, harr₂⟩ := hbody b [] (c :: cs) rfl trivial (room_wide _)
   cases e₂ with
   | normal =>
     obtain ⟨v, w₄, hend, hR⟩ := hq₂
     exact ⟨.returned v, w₄, hR, (StepsIn.trans harr s1).trans (StepsIn.trans harr₂ (.one (hI _) (stepR_round_end rfl rfl hend)))⟩
   | panic ch =>
     obtain ⟨hd, hR⟩ := hq₂
     obtain ⟨todo, hs⟩ := harr₂
     have hlv : ({ b.atR a₂ todo with mode := .panicking ch } : Frame).leaving P w₃ (.panicked ch) := ⟨rfl, hd, fn, hf⟩
     exact ⟨.panicked ch, w₃, hR, (StepsIn.trans harr s1).trans (StepsIn.trans hs (.one (hI _) (step_leave_panicked hlv)))⟩
   | ret => exact hq₂.elim
   | exit id => exact hq₂.elim
   | goto t => exact hq₂.elim
   | outgrown => exact hq₂.elim
 | exit id => exact hq.elim
 | goto t => exact hq.elim
 | ret => exact hq.elim
 | panic chain => exact hq.elim
 | outgrown => exact hq.elim
def Hands (P : Program) (gf : Nat) (lb : Array Value) (encs : List (Array Value)) (W0 : World → Prop) : Prop :=
 ∀ (n l : Nat) (J : Nat → World → Prop) (X : List PanicEntry → World → Prop) (W : World), W0 W →
   (∀ j args W, encs[j]? = some args → J j W → YieldAt Fence.wide (n - 1) P l args W fun e W' => (e = .returned (.bool true) ∧ J (j + 1) W') ∨ (∃ ch, e = .panicked ch ∧ X ch W')) → J 0 W →
   CallsIn Fence.wide n P gf (#[.func (.yield l) #[] #[]] ++ lb) W fun e W' => (∃ v, e = .returned v ∧ J encs.length W') ∨ (∃ ch, e = .panicked ch ∧ X ch W')
def bodyEnds (I X : World → Prop) (l D : Nat) (Xc : List PanicEntry → World → Prop) (W2 : World) : Exit → Go.Act → World → Prop
 | .normal, _, W' => I W' ∧ W'.heap[l]? = W2.heap[l]? ∧ W'.heap[D]? = W2.heap[D]?
 | .panic ch, a', W' => a'.defers = [] ∧ Xc ch W' ∧ W'.heap[D]? = W2.heap[D]?
 | _, _, _ => False
theorem wpAt_hands {P : Program} {f : FuncId} {fn : Func} (hf : P.funcs[f]? = some fn) {g : Operand} {ps : Array Tmp} {assign body : Code} {Q : Exit → Go.Act → World → Prop} {a : Go.Act} {w : World} (n : Nat)
 {gf : Nat} {lb : Array Value} (hg : a.eval g = .func (.func gf) #[] lb) (eg : ∀ args w, (callFunc gf args).run P w = .ok (.enter gf args) w) {encs : List (Array Value)} {W0 : World → Prop} (hit : Hands P gf lb encs W0) (hps : ∀ args ∈ encs, args.size = ps.size)
 (I : Nat → World → Prop) (X : List PanicEntry → World → Prop)
 (hI : ∀ j W r o o', w.heap.size ≤ r → W.heap[r]? = some o → o.isCells = false → I j W → I j (W.putObj r o'))
 (h0 : ∀ rec, I 0 ((w.alloc (.deferred (some []))).alloc (.loop rec))) (hW0 : ∀ rec, W0 ((w.alloc (.deferred (some []))).alloc (.loop rec)))
 (hbody : ∀ j args W, encs[j]? = some args → I j W → W.heap[w.heap.size]? = some (.deferred (some [])) → (∃ r, W.heap[w.heap.size + 1]? = some (.loop r)) →
  assign.wpIn (Fence.wide.inRound (w.heap.size + 1)) n P (Exit.then (fun a₁ W₁ => W₁ = W ∧ ∀ W2, I j W2 → W2.heap[w.heap.size]? = some (.deferred (some [])) → (∃ r, W2.heap[w.heap.size + 1]? = some (.loop r)) →
   body.wpIn (Fence.wide.inRound (w.heap.size + 1)) n P (bodyEnds (I (j + 1)) (I (j + 1)) (w.heap.size + 1) w.heap.size X W2) a₁ W2) (fun _ _ _ => False)) { tmps := (ps.zip args).foldl (fun t (p, v) => t.setIfInBounds p v) a.tmps, defers := [] } W)
 (hdone : ∀ W, I encs.length W → W.heap[w.heap.size]? = some (.deferred (some [])) → Q .normal { a with defers := { target := .collected w.heap.size, args := #[] } :: a.defers } W)
 (hstop : ∀ ch W, X ch W → W.heap[w.heap.size]? = some (.deferred (some [])) → Q (.panic ch) { a with defers := { target := .collected w.heap.size, args := #[] } :: a.defers } W) :
 wpAt f P (.rangeFunc g ps assign body) Q a w := by
 intro b k cs hro hbf
 subst hbf
 obtain ⟨rec, hrec⟩ : ∃ rec : LoopState → Loop, rec = fun st => { state := st, pending := none, fn := b.fn, tmps := a.tmps, params := ps, assign, body, defers := w.heap.size } := ⟨_, rfl⟩
 obtain ⟨W1, hW1⟩ : ∃ W1, (w.alloc (.deferred (some []))).alloc (.loop (rec .ready)) = W1 := ⟨_, rfl⟩
 have hL1 : W1.heap[w.heap.size + 1]? = some (.loop (rec .ready)) := by
  rw [← hW1]; have := World.alloc_heap_new (w.alloc (.deferred (some []))) (.loop (rec .ready)); rwa [World.size_alloc] at this
 have hK1 : W1.heap[w.heap.size]? = some (.deferred (some [])) := by
  rw [← hW1]; exact (MapKept.heap_alloc _ _).2 _ (by simp) |>.trans (World.alloc_heap_new w _)
 have he : (Instr.enterLoop b.fn a.tmps ps assign body b.roundOf).run P w = .ok (w.heap.size + 1, [{ target := .collected w.heap.size, args := #[] }]) W1 := by
  rw [hro, ← hW1, hrec]
  exact run_enterLoop_outer _ _ _ _ _
 have hres : (resolve a.eval (rangeCall g (w.heap.size + 1)) 0).run P W1 = .ok { target := .fn (.func gf) lb, args := #[.func (.yield (w.heap.size + 1)) #[] #[]] } W1 := by
  simp only [resolve, hg]
  simp [go_sem]
 have hinv : (invoke (.fn (.func gf) lb) #[.func (.yield (w.heap.size + 1)) #[] #[]]).run P W1 = .ok (.enter gf (#[.func (.yield (w.heap.size + 1)) #[] #[]] ++ lb)) W1 := by
  simp [invoke, go_sem, eg]
 have henter := stepR_rangeFunc (P := P) (b := b) (a := a) (k := k) (cs := cs) (w := w) he hres hinv
 have hcall := hit (n + 1) (w.heap.size + 1)
  (fun j W => I j W ∧ W.heap[w.heap.size + 1]? = some (.loop (rec .ready)) ∧ W.heap[w.heap.size]? = some (.deferred (some [])))
  (fun ch W => X ch W ∧ W.heap[w.heap.size]? = some (.deferred (some []))) W1 (by rw [← hW1]; exact hW0 _) ?_ ⟨by rw [← hW1]; exact h0 _, hL1, hK1⟩
 · obtain ⟨e, w₃, fr, hR, hsteps, hfn, hleave⟩ := hcall.2 (b.atR { a with defers := [{ target := .collected w.heap.size, args := #[] }] ++ a.defers } (.inRangeFunc (w.heap.size + 1) :: k) :: cs) (room_wide _)
   rcases hR with ⟨v, rfl, hi, hl, hk⟩ | ⟨ch, rfl, hx, hk⟩
   · have hend := run_endLoop (P := P) hl (by rw [hrec]; simp)
     have hlt : w.heap.size + 1 < w₃.heap.size := (Array.getElem?_eq_some_iff.1 hl).1
     refine ⟨.normal, _, _, hdone (w₃.putObj (w.heap.size + 1) (.loop { rec .ready with state := .exhausted })) (hI _ _ _ _ _ (by omega) hl rfl hi) ((World.putObj_heap_other (by omega)).trans hk), ?_⟩
     refine .head (fenced_wide P _) henter (StepsIn.trans hsteps (.head (fenced_wide P _) ?_ (.one (fenced_wide P _) (?_ : step P (lone (b.atR { a with defers := [{ target := .collected w.heap.size, args := #[] }] ++ a.defers } (.endRangeFunc (w.heap.size + 1) :: k)) cs w₃) = _))))
     · rw [← finish_atR_inRangeFunc (w.heap.size + 1) v]; exact step_leave_returned hleave
     · have := stepR_endRangeFunc (b := b) (a := { a with defers := [{ target := .collected w.heap.size, args := #[] }] ++ a.defers }) (k := k) (cs := cs) hend
       rw [hrec] at this ⊢
       exact this
   · refine ⟨.panic ch, _, w₃, hstop ch w₃ hx hk, .inRangeFunc (w.heap.size + 1) :: k, .head (fenced_wide P _) henter (StepsIn.trans hsteps (.one (fenced_wide P _) ?_))⟩
     have := step_leave_panicked (c := b.atR { a with defers := [{ target := .collected w.heap.size, args := #[] }] ++ a.defers } (.inRangeFunc (w.heap.size + 1) :: k)) (cs := cs) hleave
     rw [Frame.raise_atR] at this
     exact this
 · rintro j args W hj ⟨hi, hl, hk⟩
   have hlt : w.heap.size + 1 < W.heap.size := (Array.getElem?_eq_some_iff.1 hl).1
   have hy := run_yield (P := P) (args := args) hl (by rw [hrec]; exact hps args (List.mem_of_getElem? hj))
   rw [hrec] at hy
   refine ⟨b.fn, _, assign, body, hy, roundIn_ends hf ?_⟩
   refine wpIn_mono (hbody j args W hj hi hk ⟨_, hl⟩) ?_
   intro e a₁ W₁ hq
   cases e with
   | normal =>
     obtain ⟨rfl, hq⟩ := hq
     refine ⟨_, run_beginRound hl (by rw [hrec]), ?_⟩
     have hl2 : (W₁.putObj (w.heap.size + 1) (.loop { rec .ready with state := .busy })).heap[w.heap.size + 1]? = some (.loop { rec .ready with state := .busy }) := World.putObj_heap_same hlt
     have hk2 : (W₁.putObj (w.heap.size + 1) (.loop { rec .ready with state := .busy })).heap[w.heap.size]? = some (.deferred (some [])) := (World.putObj_heap_other (by omega)).trans hk
     refine wpIn_mono (hq _ (hI _ _ _ _ _ (by omega) hl rfl hi) hk2 ⟨_, hl2⟩) ?_
     intro e3 a3 W3 hp
     cases e3 with
     | normal =>
       obtain ⟨hi3, hl3, hk3⟩ := hp
       have hl4 := hl3.trans hl2
       have hr := run_endRound (P := P) none hl4
       refine ⟨_, _, hr, .inl ⟨rfl, hI _ _ _ _ _ (by omega) hl4 rfl hi3, ?_, (World.putObj_heap_other (by omega)).trans (hk3.trans hk2)⟩⟩
       have := World.putObj_heap_same (w := W3) (o := .loop { { rec .ready with state := .busy } with state := if (none : Option Code).isNone then .ready else .done, pending := none }) (Array.getElem?_eq_some_iff.1 hl4).1
       rw [this, hrec]
       rfl
     | panic ch =>
       obtain ⟨hd, hx, hk3⟩ := hp
       exact ⟨hd, .inr ⟨ch, rfl, hx, hk3.trans hk2⟩⟩
     | ret => exact hp.elim
     | exit id => exact hp.elim
     | goto t => exact hp.elim
     | outgrown => exact hp.elim
   | ret => exact hq.elim
   | exit id => exact hq.elim
   | goto t => exact hq.elim
   | panic ch => exact hq.elim
   | outgrown => exact hq.elim
end Go.Proofs.YtkbmadoaomoojaaGreat
namespace Go.Proofs.YtkbmadoaomoojaaGreat
set_option maxRecDepth 20000
open Go.RowKit
set_option linter.unusedVariables false
def CellB (w : World) (b : Nat) : Prop := ∃ c t z, w.heap[b]? = some (.cells c t z)
theorem CellB.keep {w w' : World} {b : Nat} (h : CellB w b) (hk : w'.heap[b]? = w.heap[b]?) : CellB w' b := by
 obtain ⟨c, t, z, e⟩ := h
 exact ⟨c, t, z, hk.trans e⟩
def ByteB (w : World) (b : Nat) : Prop := ∃ c z, w.heap[b]? = some (.cells c 5 z)
theorem ByteB.keep {w w' : World} {b : Nat} (h : ByteB w b) (hk : w'.heap[b]? = w.heap[b]?) : ByteB w' b := by
 obtain ⟨c, z, e⟩ := h
 exact ⟨c, z, hk.trans e⟩
theorem ByteB.cell {w : World} {b : Nat} (h : ByteB w b) : CellB w b := by
 obtain ⟨c, z, e⟩ := h
 exact ⟨c, _, z, e⟩
theorem ByteB.lt {w : World} {b : Nat} (h : ByteB w b) : b < w.heap.size := by
 obtain ⟨c, z, e⟩ := h
 exact (Array.getElem?_eq_some_iff.1 e).1
def Lie (w : World) (base : Nat) (v : Value) (b : Nat) : Prop := base ≤ b ∧ ByteB w b ∧ v.ownBlock ≠ some b
def Pgd (w : World) (base : Nat) (v : Value) (s : Pgs) : Prop := ∃ xs, w.ownsRow base 53 1 v s.length xs ∧ Each rBytes w (Lie w base v) xs s
theorem Pgd.slice {w : World} {base : Nat} {v : Value} {s : Pgs} (h : Pgd w base v s) : ∃ a c, v = .slice a s.length c ∧ s.length ≤ c ∧ (a = none → c = 0) := by
 obtain ⟨xs, h1, -⟩ := h
 rcases h1.2 with ⟨rfl, h0⟩ | ⟨g, cap, cur, rfl, g1, g2, g3, g4, g5, g6⟩
 · exact ⟨none, 0, by rw [h0], by omega, fun _ => rfl⟩
 · exact ⟨_, _, rfl, g3, fun e => by cases e⟩
theorem Pgd.lt {w : World} {base : Nat} {v : Value} {s : Pgs} (h : Pgd w base v s) : ∀ b, v.ownBlock = some b → base ≤ b ∧ b < w.heap.size := by
 obtain ⟨xs, h1, -⟩ := h
 exact h1.lt
theorem Pgd.keep {w w' : World} {base : Nat} {v : Value} {s : Pgs} (h : Pgd w base v s) (hk : ∀ b, base ≤ b → (ByteB w b ∨ v.ownBlock = some b) → w'.heap[b]? = w.heap[b]?) : Pgd w' base v s := by
 obtain ⟨xs, h1, h2⟩ := h
 refine ⟨xs, ⟨h1.1, ?_⟩, ⟨h2.len, fun j u x hu hx => ?_⟩⟩
 · rcases h1.2 with h0 | ⟨g, cap, cur, rfl, g1, g2, g3⟩
   · exact .inl h0
   · exact .inr ⟨g, cap, cur, rfl, g1, (hk g g1 (.inr rfl)).trans g2, g3⟩
 · have h3 := h2.rd j u x hu hx
   refine rBytes.weaken (rBytes.keep h3 (fun b hb _ => hk b hb.1 (.inl hb.2.1))) (fun b hb _ => ⟨hb.1, hb.2.1.keep (hk b hb.1 (.inl hb.2.1)), hb.2.2⟩)
theorem CellB.lt {w : World} {b : Nat} (h : CellB w b) : b < w.heap.size := by
 obtain ⟨c, t, z, e⟩ := h
 exact (Array.getElem?_eq_some_iff.1 e).1
theorem Pgd.lt2 {w : World} {base : Nat} {v : Value} {s : Pgs} (h : Pgd w base v s) {b : Nat} (hc : ByteB w b ∨ v.ownBlock = some b) : b < w.heap.size := hc.elim ByteB.lt (fun e => (h.lt b e).2)
theorem Pgd.cells {w : World} {base : Nat} {v : Value} {s : Pgs} (h : Pgd w base v s) : ∀ b, v.ownBlock = some b → CellB w b := fun b hb => by
 obtain ⟨xs, h1, -⟩ := h
 rcases h1.2 with ⟨rfl, h0⟩ | ⟨g, cap, cur, rfl, g1, g2, -⟩
 · cases hb
 · cases hb; exact ⟨_, _, _, g2⟩
theorem Pgd.below {w w' : World} {base : Nat} {v : Value} {s : Pgs} (h : Pgd w base v s) (k : Below w.heap.size w w') : Pgd w' base v s := h.keep fun b _ hc => k.block b (h.lt2 hc)
theorem Pgd.put {w : World} {base : Nat} {v : Value} {s : Pgs} (h : Pgd w base v s) {r : Nat} {o : Obj} (o' : Obj) (hr : w.heap[r]? = some o) (ho : o.isCells = false) : Pgd (w.putObj r o') base v s :=
 h.keep fun b _ hc => World.putObj_heap_other (fun e => by
  obtain ⟨c, t, z, hb⟩ : CellB w b := hc.elim ByteB.cell (h.cells b)
  rw [e, hr] at hb
  cases hb
  cases ho)
theorem Pgd.rd {w : World} {base : Nat} {a : Option Addr} {n c : Nat} {s : Pgs} (h : Pgd w base (.slice a n c) s) (hl : s.length ≤ 2048) : rSectors.rd w (fun b => base ≤ b) [.slice a n c] s := by
 obtain ⟨xs, h1, h2⟩ := h
 obtain ⟨a', c', e1, hr⟩ := rd_owned (A := rBytes) (hs := by decide) h1 (rdAll_weaken (fun b hb _ => hb.1) h2.all : rdAll rBytes w (fun b => base ≤ b) _ s) rfl (by show s.length * 24 ≤ _; omega) (fun b e => (h1.lt b e).1)
 simp only [Value.slice.injEq] at e1
 obtain ⟨rfl, rfl, rfl⟩ := e1
 exact hr
theorem Pgd.set {w : World} {base g n c : Nat} {s : Pgs} (h : Pgd w base (.slice (some ⟨g, 0, none⟩) n c) s) {i : Nat} (hi : i < s.length) {x : Option Addr} {m d : Nat} {b : List UInt8} (hb : rBytes.rd w (Lie w base (.slice (some ⟨g, 0, none⟩) n c)) [.slice x m d] b) :
 Pgd (w.setCell ⟨g, i, none⟩ (.slice x m d)) base (.slice (some ⟨g, 0, none⟩) n c) (s.set i b) := by
 obtain ⟨xs, h1, h2⟩ := h
 have hk : ∀ q, q ≠ g → (w.setCell ⟨g, i, none⟩ (.slice x m d)).heap[q]? = w.heap[q]? := fun q hq => Below.heap_setCell _ _ _ _ hq
 have hrow : ∀ q, Lie w base (.slice (some ⟨g, 0, none⟩) n c) q → q ≠ g := fun q hq e => hq.2.2 (by rw [e]; rfl)
 have hrd : ∀ {y : Value} {p : List UInt8}, rBytes.rd w (Lie w base (.slice (some ⟨g, 0, none⟩) n c)) [y] p → rBytes.rd (w.setCell ⟨g, i, none⟩ (.slice x m d)) (Lie (w.setCell ⟨g, i, none⟩ (.slice x m d)) base (.slice (some ⟨g, 0, none⟩) n c)) [y] p := fun hy =>
  rBytes.weaken (rBytes.keep hy (fun q hq _ => hk q (hrow q hq))) (fun q hq _ => ⟨hq.1, hq.2.1.keep (hk q (hrow q hq)), hq.2.2⟩)
 refine ⟨xs.set i (.slice x m d), ⟨by rw [List.length_set, List.length_set]; exact h1.1, ?_⟩, ⟨by rw [List.length_set, List.length_set]; exact h2.len, fun j u p hu hp => ?_⟩⟩
 · rcases h1.2 with ⟨h0, -⟩ | ⟨g', cap, cur, e, g1, g2, g3, g4, g5, g6⟩
   · cases h0
   · simp only [Value.slice.injEq, Option.some.injEq, Addr.mk.injEq, and_true] at e
     obtain ⟨rfl, rfl, rfl⟩ := e
     have R : Row w g 53 cur.toList := ⟨by simpa using g2⟩
     refine .inr ⟨g, c, (cur.toList.set i (.slice x m d)).toArray, by rw [List.length_set], g1, (R.set i (.slice x m d)).eq, by rw [List.length_set]; exact g3, g4, by simpa using g5, ?_⟩
     rw [List.length_set, List.take_set, ← g6]
 · by_cases e : i = j
   · subst e
     have h3 : i < xs.length := by rw [h2.len]; exact hi
     simp only [List.getElem?_set_self h3, List.getElem?_set_self hi, Option.some.injEq] at hu hp
     subst hu
     subst hp
     exact hrd hb
   · rw [List.getElem?_set_ne e] at hu hp
     exact hrd (h2.rd j u p hu hp)
end Go.Proofs.YtkbmadoaomoojaaGreat
