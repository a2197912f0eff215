/-
  Facts that the proof rests on, part 15. Conditions: those that each of them names.
-/
import Derived.Test.YtkbmadoaomoojaaGreatT00
import Derived.LoopIn
import Derived.LoopNIn
import Derived.MapKept
import Derived.OwnWalkIn
import Derived.RangeFuncBox
import Derived.RangeFuncLeaves
import Derived.RangeFuncNested
import Derived.Shelf.Abstract
import Derived.TacticsInMore
import Derived.WalkKit
import Derived.Test.YtkbmadoaomoojaaGreatT11
import Derived.Test.YtkbmadoaomoojaaGreatT12
import Derived.Test.YtkbmadoaomoojaaGreatT13
namespace Go.Proofs.YtkbmadoaomoojaaGreat
set_option maxHeartbeats 16000000
set_option maxRecDepth 20000
set_option linter.unusedVariables false
open Go
def wpAt (f : FuncId) (P : Program) (c : Code) (Q : Exit → Go.Act → World → Prop) (a : Go.Act) (w : World) : Prop :=
 ∀ (b : Frame) (k : List Item) (cs : List Frame), b.roundOf = none → b.fn = f →
   ∃ e a' w', Q e a' w' ∧ ArrivesIn (Machine.fenced P Fence.wide) P (lone (b.atR a (.code c :: k)) cs w) b k cs e a' w'
theorem qHJ (n : Nat) : Fence.wide.room n := fun d h => by cases h
theorem qNJ {f : FuncId} {P : Program} {c : Code} {Q : Exit → Go.Act → World → Prop} {a : Go.Act} {w : World} {n : Nat} (h : c.wpIn Fence.wide n P Q a w) : wpAt f P c Q a w :=
 fun b k cs hr _ => h b k cs hr trivial (qHJ _)
theorem qEx {f : FuncId} {P : Program} {x y : Code} {Q : Exit → Go.Act → World → Prop} {a : Go.Act} {w : World} (h : wpAt f P x (Exit.then (fun a w => wpAt f P y Q a w) Q) a w) : wpAt f P (.seq x y) Q a w := by
 intro b k cs hro hf
 have h0 := fenced_wide P (lone (b.atR a (.code (.seq x y) :: k)) cs w)
 obtain ⟨e, a₁, w₁, hq, harr⟩ := h b (.code y :: k) cs hro hf
 by_cases he : e = .normal
 · subst he
   obtain ⟨e₂, a₂, w₂, hq₂, harr₂⟩ := hq b k cs hro hf
   exact ⟨e₂, a₂, w₂, hq₂, .of_steps (.head h0 stepR_seq harr) harr₂⟩
 · have hq' : Q e a₁ w₁ := by cases e <;> first | exact hq | exact absurd rfl he
   exact ⟨e, a₁, w₁, hq', .of_steps (.one h0 stepR_seq) (.pass (x := .code y) rfl (fun _ _ => .inl he) harr)⟩
def atEnd (Q : Exit → Go.Act → World → Prop) : Exit → Go.Act → World → Prop
 | .normal, a, w => Q .normal a w
 | .panic ch, a, w => Q (.panic ch) a w
 | _, _, _ => False
theorem qTZ {f : FuncId} {P : Program} {id : Nat} {c : Code} {Q : Exit → Go.Act → World → Prop} {a : Go.Act} {w : World} (h : wpAt f P c (atEnd Q) a w) : wpAt f P (.block id c) Q a w := by
 intro b k cs hro hf
 have h0 := fenced_wide P (lone (b.atR a (.code (.block id c) :: k)) cs w)
 obtain ⟨e, a₁, w₁, hq, harr⟩ := h b (.inBlock id :: k) cs hro hf
 cases e with
 | normal => exact ⟨.normal, a₁, w₁, hq, .head h0 stepR_block (StepsIn.trans harr (.one (fenced_wide P _) stepR_inBlock))⟩
 | panic ch => exact ⟨_, a₁, w₁, hq, .of_steps (.one h0 stepR_block) harr⟩
 | exit id => exact hq.elim
 | goto l => exact hq.elim
 | ret => exact hq.elim
 | outgrown => exact hq.elim
theorem z0q {P : Program} {f : FuncId} {fn : Func} {c : Code} {args : Array Value} {w : World} {R : Ending → World → Prop} (n : Nat) (hf : P.funcs[f]? = some fn) (hb : fn.body = some c)
 (h : wpAt f P c (bodyPostM Fence.wide n P fn R) { tmps := args ++ Array.replicate (fn.ntmps - args.size) undef, defers := [] } w) : Calls P f args w R := by
 refine (callsIn_wide (n := n)).1 ⟨trivial, fun cs hr => ?_⟩
 let b : Frame := { (default : Frame) with fn := f, kind := .normal, roundOf := none }
 have henter : Frame.enter P f args .normal = b.atR { tmps := args ++ Array.replicate (fn.ntmps - args.size) undef, defers := [] } [.code c] := by simp [Frame.enter, Frame.atR, hf, hb, b]
 obtain ⟨e, a', w', hq, harr⟩ := h b [] cs rfl rfl
 rw [← henter] at harr
 cases e with
 | normal =>
   obtain ⟨e', w'', fr', hR, hs, hfn, hl⟩ := leaves_stepsInM a'.defers .returning w' { b.atR a' [] with mode := .returning } cs rfl rfl rfl hf rfl trivial hr hq
   exact ⟨e', w'', fr', hR, ComesIn.of_steps (StepsIn.trans harr (.one (fenced_wide P _) (stepR_end rfl))) hs, hfn, hl⟩
 | ret =>
   obtain ⟨todo, hs₀⟩ := harr.1 rfl
   obtain ⟨e', w'', fr', hR, hs, hfn, hl⟩ := leaves_stepsInM a'.defers .returning w' { b.atR a' todo with mode := .returning } cs rfl rfl rfl hf rfl trivial hr hq
   exact ⟨e', w'', fr', hR, ComesIn.of_steps hs₀ hs, hfn, hl⟩
 | panic ch =>
   obtain ⟨todo, hs₀⟩ := harr
   obtain ⟨e', w'', fr', hR, hs, hfn, hl⟩ := leaves_stepsInM a'.defers (.panicking ch) w' { b.atR a' todo with mode := .panicking ch } cs rfl rfl rfl hf rfl trivial hr hq
   exact ⟨e', w'', fr', hR, ComesIn.of_steps hs₀ hs, hfn, hl⟩
 | exit id => exact hq.elim
 | goto l => exact hq.elim
 | outgrown => exact ⟨.outgrown, w', b, hq, harr.resolve_left (by simp [b]), rfl, trivial⟩
def roundEnds (P : Program) (l : Nat) (R : Ending → World → Prop) : Exit → Go.Act → World → Prop
 | .normal, _, w => ∃ v w', (Instr.endRound l none).run P w = .ok v w' ∧ R (.returned v) w'
 | .panic ch, a, w => a.defers = [] ∧ R (.panicked ch) w
 | _, _, _ => False
theorem roundIn_ends {P : Program} {n l : Nat} {f : FuncId} {fn : Func} {tmps : Array Value} {assign body : Code} {w : World} {R : Ending → World → Prop} (hf : P.funcs[f]? = some fn)
 (h : assign.wpIn (Fence.wide.inRound l) n P (Exit.then (fun a₁ w₁ => ∃ w₂, (Instr.beginRound l).run P w₁ = .ok () w₂ ∧ body.wpIn (Fence.wide.inRound l) n P (roundEnds P l R) a₁ w₂) (fun _ _ _ => False)) { tmps := tmps, defers := [] } w) :
 RoundIn Fence.wide n P l f tmps assign body w R := by
 refine ⟨trivial, fun c cs hr => ?_⟩
 let b : Frame := { (default : Frame) with fn := f, kind := .normal, roundOf := some l }
 have hb0 : Frame.round l f tmps assign body .normal = b.atR { tmps := tmps, defers := [] } [.code assign, .beginRound, .code body] := by simp [Frame.round, Frame.atR, b]
 have hI : ∀ m, Machine.fenced P Fence.wide m := fun m => fenced_wide P m
 obtain ⟨e, a₁, w₁, hq, harr⟩ := h b [.beginRound, .code body] (c :: cs) rfl trivial (qHJ _)
 rw [← hb0] at harr
 cases e with
 | normal =>
   obtain ⟨w₂, hbr, hbody⟩ := hq
   have s1 : StepsIn (Machine.fenced P Fence.wide) P (lone (b.atR a₁ [.beginRound, .code body]) (c :: cs) w₁) (lone (b.atR a₁ [.code body]) (c :: cs) w₂) := .one (hI _) (stepR_beginRound rfl hbr)
   obtain ⟨e₂, a₂, w₃, hq₂, harr₂⟩ := hbody b [] (c :: cs) rfl trivial (qHJ _)
   cases e₂ with
   | normal =>
     obtain ⟨v, w₄, hend, hR⟩ := hq₂
     exact ⟨.returned v, w₄, hR, (StepsIn.trans harr s1).trans (StepsIn.trans harr₂ (.one (hI _) (stepR_round_end rfl rfl hend)))⟩
   | panic ch =>
     obtain ⟨hd, hR⟩ := hq₂
     obtain ⟨todo, hs⟩ := harr₂
     have hlv : ({ b.atR a₂ todo with mode := .panicking ch } : Frame).leaving P w₃ (.panicked ch) := ⟨rfl, hd, fn, hf⟩
     exact ⟨.panicked ch, w₃, hR, (StepsIn.trans harr s1).trans (StepsIn.trans hs (.one (hI _) (step_leave_panicked hlv)))⟩
   | ret => exact hq₂.elim
   | exit id => exact hq₂.elim
   | goto t => exact hq₂.elim
   | outgrown => exact hq₂.elim
 | exit id => exact hq.elim
 | goto t => exact hq.elim
 | ret => exact hq.elim
 | panic chain => exact hq.elim
 | outgrown => exact hq.elim
def Hands (P : Program) (gf : Nat) (lb : Array Value) (encs : List (Array Value)) (W0 : World → Prop) : Prop :=
 ∀ (n l : Nat) (J : Nat → World → Prop) (X : List PanicEntry → World → Prop) (W : World), W0 W →
   (∀ j args W, encs[j]? = some args → J j W → YieldAt Fence.wide (n - 1) P l args W fun e W' => (e = .returned (.bool true) ∧ J (j + 1) W') ∨ (∃ ch, e = .panicked ch ∧ X ch W')) → J 0 W →
   CallsIn Fence.wide n P gf (#[.func (.yield l) #[] #[]] ++ lb) W fun e W' => (∃ v, e = .returned v ∧ J encs.length W') ∨ (∃ ch, e = .panicked ch ∧ X ch W')
def bodyEnds (I X : World → Prop) (l D : Nat) (Xc : List PanicEntry → World → Prop) (W2 : World) : Exit → Go.Act → World → Prop
 | .normal, _, W' => I W' ∧ W'.heap[l]? = W2.heap[l]? ∧ W'.heap[D]? = W2.heap[D]?
 | .panic ch, a', W' => a'.defers = [] ∧ Xc ch W' ∧ W'.heap[D]? = W2.heap[D]?
 | _, _, _ => False
theorem qTQ {P : Program} {f : FuncId} {fn : Func} (hf : P.funcs[f]? = some fn) {g : Operand} {ps : Array Tmp} {assign body : Code} {Q : Exit → Go.Act → World → Prop} {a : Go.Act} {w : World} (n : Nat)
 {gf : Nat} {lb : Array Value} (hg : a.eval g = .func (.func gf) #[] lb) (eg : ∀ args w, (callFunc gf args).run P w = .ok (.enter gf args) w) {encs : List (Array Value)} {W0 : World → Prop} (hit : Hands P gf lb encs W0) (hps : ∀ args ∈ encs, args.size = ps.size)
 (I : Nat → World → Prop) (X : List PanicEntry → World → Prop)
 (hI : ∀ j W r o o', w.heap.size ≤ r → W.heap[r]? = some o → o.isCells = false → I j W → I j (W.putObj r o'))
 (h0 : ∀ rec, I 0 ((w.alloc (.deferred (some []))).alloc (.loop rec))) (hW0 : ∀ rec, W0 ((w.alloc (.deferred (some []))).alloc (.loop rec)))
 (hbody : ∀ j args W, encs[j]? = some args → I j W → W.heap[w.heap.size]? = some (.deferred (some [])) → (∃ r, W.heap[w.heap.size + 1]? = some (.loop r)) →
  assign.wpIn (Fence.wide.inRound (w.heap.size + 1)) n P (Exit.then (fun a₁ W₁ => W₁ = W ∧ ∀ W2, I j W2 → W2.heap[w.heap.size]? = some (.deferred (some [])) → (∃ r, W2.heap[w.heap.size + 1]? = some (.loop r)) →
   body.wpIn (Fence.wide.inRound (w.heap.size + 1)) n P (bodyEnds (I (j + 1)) (I (j + 1)) (w.heap.size + 1) w.heap.size X W2) a₁ W2) (fun _ _ _ => False)) { tmps := (ps.zip args).foldl (fun t (p, v) => t.setIfInBounds p v) a.tmps, defers := [] } W)
 (hdone : ∀ W, I encs.length W → W.heap[w.heap.size]? = some (.deferred (some [])) → Q .normal { a with defers := { target := .collected w.heap.size, args := #[] } :: a.defers } W)
 (hstop : ∀ ch W, X ch W → W.heap[w.heap.size]? = some (.deferred (some [])) → Q (.panic ch) { a with defers := { target := .collected w.heap.size, args := #[] } :: a.defers } W) :
 wpAt f P (.rangeFunc g ps assign body) Q a w := by
 intro b k cs hro hbf
 subst hbf
 obtain ⟨rec, hrec⟩ : ∃ rec : LoopState → Loop, rec = fun st => { state := st, pending := none, fn := b.fn, tmps := a.tmps, params := ps, assign, body, defers := w.heap.size } := ⟨_, rfl⟩
 obtain ⟨W1, hW1⟩ : ∃ W1, (w.alloc (.deferred (some []))).alloc (.loop (rec .ready)) = W1 := ⟨_, rfl⟩
 have hL1 : W1.heap[w.heap.size + 1]? = some (.loop (rec .ready)) := by
  rw [← hW1]; have := World.alloc_heap_new (w.alloc (.deferred (some []))) (.loop (rec .ready)); rwa [World.size_alloc] at this
 have hK1 : W1.heap[w.heap.size]? = some (.deferred (some [])) := by
  rw [← hW1]; exact (MapKept.heap_alloc _ _).2 _ (by simp) |>.trans (World.alloc_heap_new w _)
 have he : (Instr.enterLoop b.fn a.tmps ps assign body b.roundOf).run P w = .ok (w.heap.size + 1, [{ target := .collected w.heap.size, args := #[] }]) W1 := by
  rw [hro, ← hW1, hrec]
  exact run_enterLoop_outer _ _ _ _ _
 have hres : (resolve a.eval (rangeCall g (w.heap.size + 1)) 0).run P W1 = .ok { target := .fn (.func gf) lb, args := #[.func (.yield (w.heap.size + 1)) #[] #[]] } W1 := by
  simp only [resolve, hg]
  simp [go_sem]
 have hinv : (invoke (.fn (.func gf) lb) #[.func (.yield (w.heap.size + 1)) #[] #[]]).run P W1 = .ok (.enter gf (#[.func (.yield (w.heap.size + 1)) #[] #[]] ++ lb)) W1 := by
  simp [invoke, go_sem, eg]
 have henter := stepR_rangeFunc (P := P) (b := b) (a := a) (k := k) (cs := cs) (w := w) he hres hinv
 have hcall := hit (n + 1) (w.heap.size + 1)
  (fun j W => I j W ∧ W.heap[w.heap.size + 1]? = some (.loop (rec .ready)) ∧ W.heap[w.heap.size]? = some (.deferred (some [])))
  (fun ch W => X ch W ∧ W.heap[w.heap.size]? = some (.deferred (some []))) W1 (by rw [← hW1]; exact hW0 _) ?_ ⟨by rw [← hW1]; exact h0 _, hL1, hK1⟩
 · obtain ⟨e, w₃, fr, hR, hsteps, hfn, hleave⟩ := hcall.2 (b.atR { a with defers := [{ target := .collected w.heap.size, args := #[] }] ++ a.defers } (.inRangeFunc (w.heap.size + 1) :: k) :: cs) (qHJ _)
   rcases hR with ⟨v, rfl, hi, hl, hk⟩ | ⟨ch, rfl, hx, hk⟩
   · have hend := run_endLoop (P := P) hl (by rw [hrec]; simp)
     have hlt : w.heap.size + 1 < w₃.heap.size := (Array.getElem?_eq_some_iff.1 hl).1
     refine ⟨.normal, _, _, hdone (w₃.putObj (w.heap.size + 1) (.loop { rec .ready with state := .exhausted })) (hI _ _ _ _ _ (by omega) hl rfl hi) ((World.putObj_heap_other (by omega)).trans hk), ?_⟩
     refine .head (fenced_wide P _) henter (StepsIn.trans hsteps (.head (fenced_wide P _) ?_ (.one (fenced_wide P _) (?_ : step P (lone (b.atR { a with defers := [{ target := .collected w.heap.size, args := #[] }] ++ a.defers } (.endRangeFunc (w.heap.size + 1) :: k)) cs w₃) = _))))
     · rw [← finish_atR_inRangeFunc (w.heap.size + 1) v]; exact step_leave_returned hleave
     · have := stepR_endRangeFunc (b := b) (a := { a with defers := [{ target := .collected w.heap.size, args := #[] }] ++ a.defers }) (k := k) (cs := cs) hend
       rw [hrec] at this ⊢
       exact this
   · refine ⟨.panic ch, _, w₃, hstop ch w₃ hx hk, .inRangeFunc (w.heap.size + 1) :: k, .head (fenced_wide P _) henter (StepsIn.trans hsteps (.one (fenced_wide P _) ?_))⟩
     have := step_leave_panicked (c := b.atR { a with defers := [{ target := .collected w.heap.size, args := #[] }] ++ a.defers } (.inRangeFunc (w.heap.size + 1) :: k)) (cs := cs) hleave
     rw [Frame.raise_atR] at this
     exact this
 · rintro j args W hj ⟨hi, hl, hk⟩
   have hlt : w.heap.size + 1 < W.heap.size := (Array.getElem?_eq_some_iff.1 hl).1
   have hy := run_yield (P := P) (args := args) hl (by rw [hrec]; exact hps args (List.mem_of_getElem? hj))
   rw [hrec] at hy
   refine ⟨b.fn, _, assign, body, hy, roundIn_ends hf ?_⟩
   refine wpIn_mono (hbody j args W hj hi hk ⟨_, hl⟩) ?_
   intro e a₁ W₁ hq
   cases e with
   | normal =>
     obtain ⟨rfl, hq⟩ := hq
     refine ⟨_, run_beginRound hl (by rw [hrec]), ?_⟩
     have hl2 : (W₁.putObj (w.heap.size + 1) (.loop { rec .ready with state := .busy })).heap[w.heap.size + 1]? = some (.loop { rec .ready with state := .busy }) := World.putObj_heap_same hlt
     have hk2 : (W₁.putObj (w.heap.size + 1) (.loop { rec .ready with state := .busy })).heap[w.heap.size]? = some (.deferred (some [])) := (World.putObj_heap_other (by omega)).trans hk
     refine wpIn_mono (hq _ (hI _ _ _ _ _ (by omega) hl rfl hi) hk2 ⟨_, hl2⟩) ?_
     intro e3 a3 W3 hp
     cases e3 with
     | normal =>
       obtain ⟨hi3, hl3, hk3⟩ := hp
       have hl4 := hl3.trans hl2
       have hr := run_endRound (P := P) none hl4
       refine ⟨_, _, hr, .inl ⟨rfl, hI _ _ _ _ _ (by omega) hl4 rfl hi3, ?_, (World.putObj_heap_other (by omega)).trans (hk3.trans hk2)⟩⟩
       have := World.putObj_heap_same (w := W3) (o := .loop { { rec .ready with state := .busy } with state := if (none : Option Code).isNone then .ready else .done, pending := none }) (Array.getElem?_eq_some_iff.1 hl4).1
       rw [this, hrec]
       rfl
     | panic ch =>
       obtain ⟨hd, hx, hk3⟩ := hp
       exact ⟨hd, .inr ⟨ch, rfl, hx, hk3.trans hk2⟩⟩
     | ret => exact hp.elim
     | exit id => exact hp.elim
     | goto t => exact hp.elim
     | outgrown => exact hp.elim
   | ret => exact hq.elim
   | exit id => exact hq.elim
   | goto t => exact hq.elim
   | panic ch => exact hq.elim
   | outgrown => exact hq.elim
end Go.Proofs.YtkbmadoaomoojaaGreat
namespace Go.Proofs.YtkbmadoaomoojaaGreat
set_option maxHeartbeats 16000000
set_option maxRecDepth 20000
open Go.RowKit
set_option linter.unusedVariables false
def CellB (w : World) (b : Nat) : Prop := ∃ c t z, w.heap[b]? = some (.cells c t z)
theorem CellB.keep {w w' : World} {b : Nat} (h : CellB w b) (hk : w'.heap[b]? = w.heap[b]?) : CellB w' b := by
 obtain ⟨c, t, z, e⟩ := h
 exact ⟨c, t, z, hk.trans e⟩
def ByteB (w : World) (b : Nat) : Prop := ∃ c z, w.heap[b]? = some (.cells c 5 z)
theorem ByteB.keep {w w' : World} {b : Nat} (h : ByteB w b) (hk : w'.heap[b]? = w.heap[b]?) : ByteB w' b := by
 obtain ⟨c, z, e⟩ := h
 exact ⟨c, z, hk.trans e⟩
theorem ByteB.cell {w : World} {b : Nat} (h : ByteB w b) : CellB w b := by
 obtain ⟨c, z, e⟩ := h
 exact ⟨c, _, z, e⟩
theorem ByteB.lt {w : World} {b : Nat} (h : ByteB w b) : b < w.heap.size := by
 obtain ⟨c, z, e⟩ := h
 exact (Array.getElem?_eq_some_iff.1 e).1
def Lie (w : World) (base : Nat) (v : Value) (b : Nat) : Prop := base ≤ b ∧ ByteB w b ∧ v.ownBlock ≠ some b
def Pgd (w : World) (base : Nat) (v : Value) (s : Pgs) : Prop := ∃ xs, w.ownsRow base 53 1 v s.length xs ∧ Each rBytes w (Lie w base v) xs s
theorem Pgd.slice {w : World} {base : Nat} {v : Value} {s : Pgs} (h : Pgd w base v s) : ∃ a c, v = .slice a s.length c ∧ s.length ≤ c ∧ (a = none → c = 0) := by
 obtain ⟨xs, h1, -⟩ := h
 rcases h1.2 with ⟨rfl, h0⟩ | ⟨g, cap, cur, rfl, g1, g2, g3, g4, g5, g6⟩
 · exact ⟨none, 0, by rw [h0], by omega, fun _ => rfl⟩
 · exact ⟨_, _, rfl, g3, fun e => by cases e⟩
theorem Pgd.lt {w : World} {base : Nat} {v : Value} {s : Pgs} (h : Pgd w base v s) : ∀ b, v.ownBlock = some b → base ≤ b ∧ b < w.heap.size := by
 obtain ⟨xs, h1, -⟩ := h
 exact h1.lt
theorem Pgd.keep {w w' : World} {base : Nat} {v : Value} {s : Pgs} (h : Pgd w base v s) (hk : ∀ b, base ≤ b → (ByteB w b ∨ v.ownBlock = some b) → w'.heap[b]? = w.heap[b]?) : Pgd w' base v s := by
 obtain ⟨xs, h1, h2⟩ := h
 refine ⟨xs, ⟨h1.1, ?_⟩, ⟨h2.len, fun j u x hu hx => ?_⟩⟩
 · rcases h1.2 with h0 | ⟨g, cap, cur, rfl, g1, g2, g3⟩
   · exact .inl h0
   · exact .inr ⟨g, cap, cur, rfl, g1, (hk g g1 (.inr rfl)).trans g2, g3⟩
 · have h3 := h2.rd j u x hu hx
   refine rBytes.weaken (rBytes.keep h3 (fun b hb _ => hk b hb.1 (.inl hb.2.1))) (fun b hb _ => ⟨hb.1, hb.2.1.keep (hk b hb.1 (.inl hb.2.1)), hb.2.2⟩)
theorem CellB.lt {w : World} {b : Nat} (h : CellB w b) : b < w.heap.size := by
 obtain ⟨c, t, z, e⟩ := h
 exact (Array.getElem?_eq_some_iff.1 e).1
theorem Pgd.lt2 {w : World} {base : Nat} {v : Value} {s : Pgs} (h : Pgd w base v s) {b : Nat} (hc : ByteB w b ∨ v.ownBlock = some b) : b < w.heap.size := hc.elim ByteB.lt (fun e => (h.lt b e).2)
theorem Pgd.cells {w : World} {base : Nat} {v : Value} {s : Pgs} (h : Pgd w base v s) : ∀ b, v.ownBlock = some b → CellB w b := fun b hb => by
 obtain ⟨xs, h1, -⟩ := h
 rcases h1.2 with ⟨rfl, h0⟩ | ⟨g, cap, cur, rfl, g1, g2, -⟩
 · cases hb
 · cases hb; exact ⟨_, _, _, g2⟩
theorem Pgd.below {w w' : World} {base : Nat} {v : Value} {s : Pgs} (h : Pgd w base v s) (k : Below w.heap.size w w') : Pgd w' base v s := h.keep fun b _ hc => k.block b (h.lt2 hc)
theorem Pgd.put {w : World} {base : Nat} {v : Value} {s : Pgs} (h : Pgd w base v s) {r : Nat} {o : Obj} (o' : Obj) (hr : w.heap[r]? = some o) (ho : o.isCells = false) : Pgd (w.putObj r o') base v s :=
 h.keep fun b _ hc => World.putObj_heap_other (fun e => by
  obtain ⟨c, t, z, hb⟩ : CellB w b := hc.elim ByteB.cell (h.cells b)
  rw [e, hr] at hb
  cases hb
  cases ho)
theorem Pgd.rd {w : World} {base : Nat} {a : Option Addr} {n c : Nat} {s : Pgs} (h : Pgd w base (.slice a n c) s) (hl : s.length ≤ 2048) : rSectors.rd w (fun b => base ≤ b) [.slice a n c] s := by
 obtain ⟨xs, h1, h2⟩ := h
 obtain ⟨a', c', e1, hr⟩ := q9Z (A := rBytes) (hs := by decide) h1 (q7j (fun b hb _ => hb.1) h2.all : q8J rBytes w (fun b => base ≤ b) _ s) rfl (by show s.length * 24 ≤ _; omega) (fun b e => (h1.lt b e).1)
 simp only [Value.slice.injEq] at e1
 obtain ⟨rfl, rfl, rfl⟩ := e1
 exact hr
theorem Pgd.set {w : World} {base g n c : Nat} {s : Pgs} (h : Pgd w base (.slice (some ⟨g, 0, none⟩) n c) s) {i : Nat} (hi : i < s.length) {x : Option Addr} {m d : Nat} {b : List UInt8} (hb : rBytes.rd w (Lie w base (.slice (some ⟨g, 0, none⟩) n c)) [.slice x m d] b) :
 Pgd (w.setCell ⟨g, i, none⟩ (.slice x m d)) base (.slice (some ⟨g, 0, none⟩) n c) (s.set i b) := by
 obtain ⟨xs, h1, h2⟩ := h
 have hk : ∀ q, q ≠ g → (w.setCell ⟨g, i, none⟩ (.slice x m d)).heap[q]? = w.heap[q]? := fun q hq => Below.heap_setCell _ _ _ _ hq
 have hrow : ∀ q, Lie w base (.slice (some ⟨g, 0, none⟩) n c) q → q ≠ g := fun q hq e => hq.2.2 (by rw [e]; rfl)
 have hrd : ∀ {y : Value} {p : List UInt8}, rBytes.rd w (Lie w base (.slice (some ⟨g, 0, none⟩) n c)) [y] p → rBytes.rd (w.setCell ⟨g, i, none⟩ (.slice x m d)) (Lie (w.setCell ⟨g, i, none⟩ (.slice x m d)) base (.slice (some ⟨g, 0, none⟩) n c)) [y] p := fun hy =>
  rBytes.weaken (rBytes.keep hy (fun q hq _ => hk q (hrow q hq))) (fun q hq _ => ⟨hq.1, hq.2.1.keep (hk q (hrow q hq)), hq.2.2⟩)
 refine ⟨xs.set i (.slice x m d), ⟨by rw [List.length_set, List.length_set]; exact h1.1, ?_⟩, ⟨by rw [List.length_set, List.length_set]; exact h2.len, fun j u p hu hp => ?_⟩⟩
 · rcases h1.2 with ⟨h0, -⟩ | ⟨g', cap, cur, e, g1, g2, g3, g4, g5, g6⟩
   · cases h0
   · simp only [Value.slice.injEq, Option.some.injEq, Addr.mk.injEq, and_true] at e
     obtain ⟨rfl, rfl, rfl⟩ := e
     have R : Row w g 53 cur.toList := ⟨by simpa using g2⟩
     refine .inr ⟨g, c, (cur.toList.set i (.slice x m d)).toArray, by rw [List.length_set], g1, (R.set i (.slice x m d)).eq, by rw [List.length_set]; exact g3, g4, by simpa using g5, ?_⟩
     rw [List.length_set, List.take_set, ← g6]
 · by_cases e : i = j
   · subst e
     have h3 : i < xs.length := by rw [h2.len]; exact hi
     simp only [List.getElem?_set_self h3, List.getElem?_set_self hi, Option.some.injEq] at hu hp
     subst hu
     subst hp
     exact hrd hb
   · rw [List.getElem?_set_ne e] at hu hp
     exact hrd (h2.rd j u p hu hp)
theorem elem_pages : qKq Tryz.prog 68 53 rBytes := qVZ (z := .slice none 0 0) Tryz.underlying68 (by kernel_rfl) rfl rfl rfl (by decide)
theorem qFz (w : World) (P : Nat → Prop) : rBytes.rd w P [.slice none 0 0] [] :=
 ⟨none, 0, 0, rfl, rfl, zw0 _, fun _ => rfl, by simp, fun x h => by cases h⟩
theorem qOx {w : World} {base : Nat} {v : Value} {s : Pgs} (h : Pgd w base v s) (hl : s.length ≤ 2048) (hb : base ≤ w.heap.size) (ty : TypeId) :
 ∃ v' w', (Builtin.append_ #[68, 68] ty #[v, .slice (some ⟨w.heap.size, 0, none⟩) 1 1]).run Tryz.prog (w.alloc (.cells #[.slice none 0 0] 53)) = .ok v' w' ∧ Pgd w' base v' (s ++ [[]]) ∧ Grew (w.alloc (.cells #[.slice none 0 0] 53)) w' v v' := by
 obtain ⟨ht, i, z, hi, hz, hsize, hby, hzs, hpos⟩ := elem_pages
 have b0 : Below w.heap.size w (w.alloc (.cells #[.slice none 0 0] 53)) := (Below.refl _ _).alloc (zw0 _) _
 have hlt := h.lt
 obtain ⟨xs, h1, h2⟩ := h.below b0
 obtain ⟨v', w', hr, k1, k2, -, k4⟩ := run_append_own_at (P := Tryz.prog) (w.alloc (.cells #[.slice none 0 0] 53)) base 68 ty 53 i z 1 24 ht hi hz hsize hby hzs (by decide) v s.length xs h1 ⟨w.heap.size, 0, none⟩ 1 1 [.slice none 0 0] rfl
  (cell_one_new _ _ _) (fun u hu => by simp at hu; subst hu; rfl) (by unfold maxLen; omega) (by omega) (by simp; omega)
 refine ⟨v', w', hr, ⟨xs ++ [.slice none 0 0], by simpa using k1, Each.append ⟨h2.len, fun j u x hu hx => ?_⟩ ⟨rfl, fun j u x hu hx => ?_⟩⟩, ⟨k2, fun b' e => ?_⟩⟩
 · have h3 := h2.rd j u x hu hx
   have hkk : ∀ b, Lie (w.alloc (.cells #[.slice none 0 0] 53)) base v b → w'.heap[b]? = (w.alloc (.cells #[.slice none 0 0] 53)).heap[b]? := fun b hb => k2.block b hb.2.1.lt (fun e => hb.2.2 e.symm)
   refine rBytes.weaken (rBytes.keep h3 (fun b hb _ => hkk b hb)) (fun b hb _ => ⟨hb.1, hb.2.1.keep (hkk b hb), fun e => ?_⟩)
   rcases k4 with k | k
   · exact hb.2.2 (k.symm.trans e)
   · rw [e] at k
     simp only [Option.some.injEq] at k
     have := hb.2.1.lt
     omega
 · cases j with
   | zero =>
     simp only [List.getElem?_cons_zero, Option.some.injEq] at hu hx
     subst hu
     subst hx
     exact qFz _ _
   | succ j => simp at hu
 · rcases k4 with k | k
   · exact .inl (k.symm.trans e)
   · exact .inr (by rw [e] at k; simp only [Option.some.injEq] at k; omega)
theorem isFree_u (w : World) (x : Option Addr) (m d : Nat) : Calls Tryz.prog 103 #[.slice x m d] w fun e w' => e = .returned (.bool (decide ((m : Int) = 0))) ∧ w' = w := by
 go_enter Tryz.func103, Tryz.ntmps103
 go_wp2
 go_ret
 exact ⟨rfl, rfl⟩
namespace Tr
def freeAt (s : Pgs) : Int := match s.findIdx? (fun b => b.isEmpty) with
 | some i => (i : Int)
 | none => -1
end Tr
theorem indexFree_u (w : World) (P : Nat → Prop) (a : Option Addr) (n c : Nat) (s : Pgs) (hR : rSectors.rd w P [.slice a n c] s) :
 Calls Tryz.prog 102 #[.slice a n c, .func (.func 103) #[] #[]] w fun e w' => e = .returned (.int .i64 (Tr.freeAt s)) ∧ w' = w := by
 obtain ⟨hl, hn⟩ := q4q hR
 have HL : Hid (s.length = n) := hl
 have HR : Hid _ := hR
 clear hl hR
 go_enter Tryz.func102, Tryz.ntmps102
 go_wp2
 go_loop [8] (fun i => ∃ k : Nat, k ≤ n ∧ i = .int .i64 k ∧ Hid (∀ j (h : j < s.length), j < k → s[j].isEmpty = false)) (fun i => n - (intOf i).toNat)
 case atStart => exact ⟨0, Nat.zero_le _, rfl, (fun j _ h => by omega)⟩
 case round =>
  obtain ⟨k, hk, rfl, HK⟩ := hrel
  by_cases hlt : k < n
  · have hkl : k < s.length := by rw [HL.out]; exact hlt
    obtain ⟨g, off, rfl, -, -, hat⟩ := q8X HR.out (by omega)
    obtain ⟨x, m, d, hpg, hml, cp⟩ := hat k hkl
    have hkz : (k : Int) < (n : Int) := by omega
    have HF : Hid (s[k].isEmpty = decide ((m : Int) = 0)) := by
     unfold Hid
     rw [Bool.eq_iff_iff, List.isEmpty_iff, decide_eq_true_eq, ← List.length_eq_zero_iff, hml]
     omega
    clear hat hpg hml
    by_cases hm : m = 0
    · have HE : Hid (Tr.freeAt s = (k : Int)) := by
       unfold Hid Tr.freeAt
       rw [List.findIdx?_eq_some_iff_getElem.2 ⟨hkl, by rw [HF.out]; simpa using hm, fun j hj => by rw [HK.out j (by omega) hj]; decide⟩]
      subst hm
      go_wp2_with (go_at_call 103; refine (isFree_u _ _ _ _).mono ?_; rintro e w' ⟨rfl, rfl⟩)
      go_ret
      exact ⟨by rw [HE.out]; rfl, rfl⟩
    · have hmz : decide ((m : Int) = 0) = false := decide_eq_false (by omega)
      have HN : Hid (∀ j (h : j < s.length), j < k + 1 → s[j].isEmpty = false) := fun j hj hjk => by
       by_cases e : j = k
       · subst e; rw [HF.out]; exact hmz
       · exact HK.out j hj (by omega)
      go_wp2_with (go_at_call 103; refine (isFree_u _ _ _ _).mono ?_; rintro e w' ⟨rfl, rfl⟩)
      go_round
      case rel => exact ⟨k + 1, by omega, by go_num, HN⟩
      case measure => simp [intOf]; omega
  · have HE : Hid (Tr.freeAt s = -1) := by
     unfold Hid Tr.freeAt
     rw [List.findIdx?_eq_none_iff.2 (fun b hb => by
      obtain ⟨j, hj, rfl⟩ := List.mem_iff_getElem.1 hb
      exact HK.out j hj (by rw [HL.out] at hj; omega))]
    obtain rfl : k = n := by omega
    go_wp2
    go_ret
    exact ⟨by rw [HE.out]; rfl, rfl⟩
structure Wr (w : World) (g base : Nat) (v : Value) (s : Pgs) (kv tv : Value) : Prop where
 row : Row w g 107 [v, kv, tv]
 pgs : Pgd w base v s
 few : s.length ≤ 2048
 size : base ≤ w.heap.size
def WS (g : Nat) (v : Value) : List Nat := g :: v.ownBlock.toList
theorem mem_WS {g : Nat} {v : Value} {b : Nat} : b ∈ WS g v ↔ b = g ∨ v.ownBlock = some b := by
 unfold WS
 cases v.ownBlock <;> simp [eq_comm]
structure WTurn (g : Nat) (v : Value) (w : World) (v' : Value) (w' : World) : Prop where
 turn : Turn (WS g v) w w'
 place : ∀ b, v'.ownBlock = some b → v.ownBlock = some b ∨ w.heap.size ≤ b
theorem WTurn.of {g : Nat} {v : Value} {w w' : World} (h : Below w.heap.size w w') : WTurn g v w v w' := ⟨Turn.of h, fun b e => .inl e⟩
theorem WTurn.out {g : Nat} {v v' : Value} {w w' : World} (h : WTurn g v w v' w') {b : Nat} (hb : b < w.heap.size) (hn : b ∉ WS g v) : b ∉ WS g v' := fun e => by
 rcases mem_WS.1 e with e | e
 · exact hn (mem_WS.2 (.inl e))
 · rcases h.place b e with k | k
   · exact hn (mem_WS.2 (.inr k))
   · omega
theorem WTurn.trans {g : Nat} {v v1 v2 : Value} {w w1 w2 : World} (h : WTurn g v w v1 w1) (k : WTurn g v1 w1 v2 w2) : WTurn g v w v2 w2 :=
 ⟨⟨k.turn.os.trans h.turn.os, k.turn.tape.trans h.turn.tape, k.turn.output.trans h.turn.output, zw1 h.turn.size k.turn.size, fun i hi => (k.turn.block i ⟨Nat.lt_of_lt_of_le hi.1 h.turn.size, h.out hi.1 hi.2⟩).trans (h.turn.block i hi)⟩,
   fun b e => (k.place b e).elim (h.place b) (fun q => .inr (zw1 h.turn.size q))⟩
theorem Wr.below {w w' : World} {g base : Nat} {v : Value} {s : Pgs} {kv tv : Value} (h : Wr w g base v s kv tv) (b : Below w.heap.size w w') : Wr w' g base v s kv tv :=
 ⟨h.row.below b, h.pgs.below b, h.few, zw1 h.size b.size⟩
theorem Wr.put {w : World} {g base : Nat} {v : Value} {s : Pgs} {kv tv : Value} (h : Wr w g base v s kv tv) {r : Nat} {o : Obj} (o' : Obj) (hr : w.heap[r]? = some o) (ho : o.isCells = false) : Wr (w.putObj r o') g base v s kv tv :=
 ⟨h.row.keep (World.putObj_heap_other (fun e => by have := h.row.eq; rw [e, hr] at this; cases this; cases ho)), h.pgs.put o' hr ho, h.few, by have := h.size; simpa [World.putObj] using this⟩
theorem Wr.gb {w : World} {g base : Nat} {v : Value} {s : Pgs} {kv tv : Value} (h : Wr w g base v s kv tv) : g < w.heap.size := h.row.lt
theorem Pgd.typed {w : World} {base : Nat} {v : Value} {s : Pgs} (h : Pgd w base v s) : ∀ b, v.ownBlock = some b → ∃ c z, w.heap[b]? = some (.cells c 53 z) := fun b hb => by
 obtain ⟨xs, h1, -⟩ := h
 rcases h1.2 with ⟨rfl, h0⟩ | ⟨g, cap, cur, rfl, g1, g2, -⟩
 · cases hb
 · cases hb; exact ⟨_, _, g2⟩
theorem Pgd.notW {w : World} {base g : Nat} {v : Value} {s : Pgs} {xs : List Value} (h : Pgd w base v s) (hr : Row w g 107 xs) : ∀ b, ByteB w b ∨ v.ownBlock = some b → b ≠ g := fun b hb e => by
 subst e
 rcases hb with ⟨c, z, e⟩ | e
 · rw [hr.eq] at e; cases e
 · obtain ⟨c, z, e⟩ := h.typed _ e
   rw [hr.eq] at e; cases e
theorem Wr.ne {w : World} {g base : Nat} {v : Value} {s : Pgs} {kv tv : Value} (h : Wr w g base v s kv tv) : v.ownBlock ≠ some g := fun e => h.pgs.notW h.row g (.inr e) rfl
theorem Pgd.some_ {w : World} {base : Nat} {v : Value} {s : Pgs} (h : Pgd w base v s) {i : Nat} (hi : i < s.length) : ∃ gp c, v = .slice (some ⟨gp, 0, none⟩) s.length c ∧ (∃ x m d, w.cell? ⟨gp, i, none⟩ = some (.slice x m d)) ∧ w.frozen? ⟨gp, i, none⟩ = false := by
 obtain ⟨xs, h1, h2⟩ := h
 rcases h1.2 with ⟨rfl, h0⟩ | ⟨gp, cap, cur, rfl, g1, g2, g3, g4, g5, g6⟩
 · omega
 · have R : Row w gp 53 cur.toList := ⟨by simpa using g2⟩
   refine ⟨gp, cap, rfl, ?_, R.frozen i⟩
   have hxi : i < xs.length := by rw [h2.len]; exact hi
   obtain ⟨x, m, d, e, -⟩ := h2.rd i xs[i] s[i] (zw3 hxi) (zw3 hi)
   simp only [List.cons.injEq, and_true] at e
   refine ⟨x, m, d, R.cell ?_⟩
   have hx : xs[i]? = some (.slice x m d) := by rw [zw3 hxi, e]
   rw [← g6] at hx
   rw [List.getElem?_take] at hx
   split at hx
   · exact hx
   · cases hx
theorem qUz {w w' : World} {base : Nat} {v : Value} {x : Option Addr} {m d : Nat} {l : List UInt8} (h : w'.ownsRow w.heap.size 5 1 (.slice x m d) m (cellsOf l)) (hm : m ≤ 64) (hb : base ≤ w.heap.size) (hv : ∀ b, v.ownBlock = some b → b < w.heap.size) : rBytes.rd w' (Lie w' base v) [.slice x m d] l := by
 rcases h.2 with ⟨e, h0⟩ | ⟨g, cap, cur, e, g1, g2, g3, g4, g5, g6⟩
 · simp only [Value.slice.injEq] at e
   obtain ⟨rfl, rfl, rfl⟩ := e
   have hl : l = [] := by
    have := h.1
    simpa [cellsOf] using this
   rw [hl]
   exact qFz _ _
 · have hr := qDZ (base := w.heap.size) h (by omega)
   simp only [Value.slice.injEq] at e
   obtain ⟨rfl, -, rfl⟩ := e
   obtain ⟨a', n', c', e, q1, q2, q3, q4, q5⟩ := hr
   simp only [List.cons.injEq, Value.slice.injEq, and_true] at e
   obtain ⟨rfl, rfl, rfl⟩ := e
   refine ⟨_, _, _, rfl, q1, q2, q3, q4, fun y hy j hj => ?_⟩
   simp only [Option.some.injEq] at hy
   subst hy
   obtain ⟨p1, cj, p2, p3⟩ := q5 _ rfl j hj
   exact ⟨⟨by show base ≤ g; omega, ⟨_, _, g2⟩, fun e => by have := hv g e; omega⟩, cj, p2, p3⟩
namespace Tr
theorem slot_of {s : Pgs} : (freeAt s < 0 → slot s = s.length) ∧ (∀ i : Nat, freeAt s = (i : Int) → slot s = i ∧ i < s.length) := by
 unfold freeAt slot
 cases h : s.findIdx? (fun b => b.isEmpty) with
 | none => exact ⟨(fun _ => rfl), (fun i hi => by simp only at hi; omega)⟩
 | some k =>
   have hk := (List.findIdx?_eq_some_iff_getElem.1 h).1
   refine ⟨(fun h => by simp only at h; omega), fun i hi => ?_⟩
   simp only at hi
   have : k = i := by omega
   subst this
   exact ⟨rfl, hk⟩
end Tr
def AddDone (s : Pgs) (n : Nod) (g base : Nat) (v kv tv : Value) (w : World) (e : Ending) (w' : World) : Prop :=
 (∀ x, Tr.add s n = .error x → e = q9Q x ∧ Turn (WS g v) w w') ∧ (∀ s' q, Tr.add s n = .ok (s', q) → e = .returned (.int .i64 q) ∧ ∃ v', Wr w' g base v' s' kv tv ∧ WTurn g v w v' w')
theorem AddDone.no {s : Pgs} {n : Nod} {g base : Nat} {v kv tv : Value} {w : World} {w' : World} {x : Int} (h : Tr.add s n = .error x) (t : Turn (WS g v) w w') : AddDone s n g base v kv tv w (q9Q x) w' :=
 ⟨(fun y hy => by rw [h] at hy; cases hy; exact ⟨rfl, t⟩), (fun s' q hq => by rw [h] at hq; cases hq)⟩
theorem AddDone.yes {s s' : Pgs} {n : Nod} {g base : Nat} {v kv tv v' : Value} {w : World} {e : Ending} {w' : World} {q : Int} (h : Tr.add s n = .ok (s', q)) (he : e = .returned (.int .i64 q)) (hW : Wr w' g base v' s' kv tv) (t : WTurn g v w v' w') : AddDone s n g base v kv tv w e w' :=
 ⟨(fun y hy => by rw [h] at hy; cases hy), (fun s2 q2 hq => by rw [h] at hq; cases hq; exact ⟨he, v', hW, t⟩)⟩
theorem add_u (w : World) (g base : Nat) (v : Value) (s : Pgs) (kv tv : Value) (hW : Wr w g base v s kv tv) (P : Nat → Prop) (a a' : Option Addr) (n c n' c' : Nat) (l : List Itm) (ks : List Int) (hL : rItms.rd w P [.slice a n c] l) (hK : rKids.rd w P [.slice a' n' c'] ks) (hP : ∀ b, P b → b ∉ WS g v) :
 Calls Tryz.prog 77 #[.pointer (some ⟨g, 0, none⟩), .agg #[.slice a n c, .slice a' n' c']] w fun e w' => AddDone s (l, ks) g base v kv tv w e w' := by
 have HWr : Hid _ := hW
 have HP : Hid _ := hP
 obtain ⟨pa, pc, rfl, hpl, hpn⟩ := hW.pgs.slice
 obtain ⟨w0, hw0, V0, b0, z0⟩ := q0q w 63 [.slice a n c, .slice a' n' c']
 have B0 : Hid _ := b0
 have W0 : Hid (Wr w0 g base (.slice pa s.length pc) s kv tv) := hW.below b0
 have r0 := W0.out.row.cell (j := 0) rfl
 have f0 := W0.out.row.frozen 0
 obtain ⟨y0, y1⟩ := V0.two
 have HV0 : Hid _ := V0
 have hL0 := hL
 have hK0 := hK
 have HRd : Hid _ := W0.out.pgs.rd hW.few
 have hsl : s.length ≤ 2048 := hW.few
 obtain ⟨v, hv⟩ : ∃ v, v = Value.slice pa s.length pc := ⟨_, rfl⟩
 rw [← hv] at HWr HP ⊢
 have HVv : Hid _ := hv
 clear hv hL hK hP hW V0 b0 z0 hpl hpn
 go_enter Tryz.func77, Tryz.ntmps77
 go_wp2_with fail
 go_at_call 102
 refine (indexFree_u _ _ _ _ _ s HRd.out).mono ?_
 rintro e w0 ⟨rfl, rfl⟩
 by_cases hfa : Tr.freeAt s < 0
 · have HSl : Hid (Tr.slot s = s.length) := Tr.slot_of.1 hfa
   by_cases hfull : s.length = 2048
   · have HA : Hid (Tr.add s (l, ks) = .error 51) := by unfold Hid Tr.add; rw [HSl.out, if_pos hfull]
     have hfz : ((s.length : Int) == 2048) = true := beq_iff_eq.2 (by omega)
     have BX : Hid (Turn (WS g v) w w0) := Turn.of B0.out
     clear hfull
     go_wp2
     exact ⟨rfl, AddDone.no HA.out BX.out⟩
   · have hfz : ((s.length : Int) == 2048) = false := beq_eq_false_iff_ne.2 (by omega)
     obtain ⟨wn, hwn⟩ : ∃ wn, w0.alloc (.cells #[.slice none 0 0] 53) = wn := ⟨_, rfl⟩
     obtain ⟨v3, w3, hr3, hp3, g3⟩ := qOx W0.out.pgs hsl W0.out.size 68
     rw [hwn] at hr3 g3
     obtain ⟨qa, qn, qc, rfl, hqn⟩ : ∃ a n c, v3 = .slice a n c ∧ n = (s ++ [[]]).length := by obtain ⟨a, c, e, -, -⟩ := hp3.slice; exact ⟨a, _, c, e, rfl⟩
     have HQN : Hid (qn = s.length + 1) := by unfold Hid; rw [hqn]; simp
     clear hqn
     have bn : Below w0.heap.size w0 wn := by rw [← hwn]; exact (Below.refl _ _).alloc (zw0 _) _
     have Rn := W0.out.row.below bn
     have R3 : Row w3 g 107 [.slice pa s.length pc, kv, tv] := Rn.grew g3 W0.out.ne
     have hne4 : ∀ b, (Value.slice qa qn qc).ownBlock = some b → b ≠ g := fun b hb => hp3.notW R3 b (.inr hb)
     have W4 : Hid (Wr (w3.setCell ⟨g, 0, none⟩ (.slice qa qn qc)) g base (.slice qa qn qc) (s ++ [[]]) kv tv) :=
      ⟨R3.set 0 _, hp3.keep (fun b hb hc => Below.heap_setCell _ _ _ _ (hp3.notW R3 b hc)), by simp; omega, by have := W0.out.size; have := bn.size; have := g3.grown.size; simp [World.setCell]; omega⟩
     have T4 : Hid (WTurn g v w (.slice qa qn qc) (w3.setCell ⟨g, 0, none⟩ (.slice qa qn qc))) := by
      have t1 : WTurn g v w v wn := WTurn.of (on B0.out bn)
      refine t1.trans ⟨?_, fun b e => ?_⟩
      · refine Turn.set (p := ⟨g, 0, none⟩) ?_ (.inr (mem_WS.2 (.inl rfl))) _
        exact ⟨g3.grown.os, g3.grown.tape, g3.grown.output, g3.grown.size, fun b hb => g3.grown.block b hb.1 (fun e => hb.2 (mem_WS.2 (.inr (by rw [HVv.out]; exact e.symm))))⟩
      · rw [HVv.out]; exact g3.place b e
     have s0 := R3.cell (j := 0) rfl
     have s1 := R3.frozen 0
     have HR3 : Hid _ := hr3
     have HV4 : Hid (Row (w3.setCell ⟨g, 0, none⟩ (.slice qa qn qc)) w.heap.size 63 [.slice a n c, .slice a' n' c']) := by
      have h1 : w.heap.size ∉ WS g (Value.slice pa s.length pc) := fun e => by
       rcases mem_WS.1 e with e | e
       · have := HWr.out.gb; omega
       · have := (HWr.out.pgs.lt _ (by rw [HVv.out]; exact e)).2; omega
      have h2 := (HV0.out.below bn)
      refine (h2.keep (g3.grown.block _ h2.lt (fun e => h1 (mem_WS.2 (.inr e.symm))))).keep (Below.heap_setCell _ _ _ _ (fun e => h1 (mem_WS.2 (.inl e))))
     obtain ⟨z0, z1⟩ := HV4.out.two
     obtain ⟨w4, hw4⟩ : ∃ w4, w3.setCell ⟨g, 0, none⟩ (.slice qa qn qc) = w4 := ⟨_, rfl⟩
     rw [hw4] at W4 T4 HV4 z0 z1
     clear hr3 hp3 g3 bn Rn R3 hne4
     go_wp2_with (at_builtin; refine Lib.wpList_append_run _ rfl _ _ _ _ rfl _ _ rfl rfl _ _ HR3.out ?_)
     have HI : Hid (rItms.rd w4 P [.slice a n c] l) := T4.out.turn.rep hL0 (fun b hb _ => HP.out b hb)
     have HK : Hid (rKids.rd w4 P [.slice a' n' c'] ks) := T4.out.turn.rep hK0 (fun b hb _ => HP.out b hb)
     clear hL0 hK0
     go_wp2_with fail
     go_at_call 104
     refine (qZx _ P P a a' n c n' c' l ks HI.out HK.out).mono ?_
     rintro e w5 ⟨x, m, d, rfl, ho5, b5⟩
     have HO5 : Hid _ := ho5
     have B5 : Hid _ := b5
     clear ho5 b5
     cases hok : Lf.ok (l, ks)
     · have HA : Hid (Tr.add s (l, ks) = .error 9) := by unfold Hid Tr.add; rw [if_neg (by rw [HSl.out]; omega), hok]; rfl
       have hE : Lf.encodeE (l, ks) = 9 := by unfold Lf.encodeE; rw [hok]; rfl
       rw [hE]
       clear hok hE
       go_wp2_with (go_at_call 64; refine (q6z _).mono ?_; rintro e w' ⟨rfl, rfl⟩)
       exact ⟨rfl, AddDone.no HA.out (T4.out.turn.on B5.out)⟩
     · have HA : Hid (Tr.add s (l, ks) = .ok ((s ++ [[]]).set s.length (Lf.enc (l, ks)), (s.length : Int) + 1)) := by unfold Hid Tr.add; rw [if_neg (by rw [HSl.out]; omega), if_pos hok]; rw [HSl.out, Tr.putAt, if_neg (by omega)]; simp
       have hE : Lf.encodeE (l, ks) = 0 := by unfold Lf.encodeE; rw [hok]; rfl
       have hL : Lf.encodeL (l, ks) = Lf.enc (l, ks) := by unfold Lf.encodeL; rw [hok]; rfl
       rw [hE]
       obtain ⟨gp, cp, ev, ⟨x1, m1, d1, hc1⟩, hf1⟩ := (W4.out.pgs.below B5.out).some_ (i := s.length) (show s.length < (s ++ [[]]).length by simp)
       obtain ⟨rfl, -, rfl⟩ : qa = some ⟨gp, 0, none⟩ ∧ True ∧ qc = cp := by simp only [Value.slice.injEq] at ev; exact ⟨ev.1, trivial, ev.2.2⟩
       clear ev
       have hm5 : m ≤ 64 := by
        have h1 := HO5.out.1
        rw [hL] at h1
        have h2 := Lf.enc_len (Lf.ok_iff.1 hok)
        simp [cellsOf, h2] at h1
        omega
       have hrb : rBytes.rd w5 (Lie w5 base (.slice (some ⟨gp, 0, none⟩) qn qc)) [.slice x m d] (Lf.enc (l, ks)) := by
        have := qUz (w := w4) (base := base) (v := Value.slice (some ⟨gp, 0, none⟩) qn qc) HO5.out hm5 W4.out.size (fun b hb => (W4.out.pgs.lt b hb).2)
        rw [hL] at this
        exact this
       have P6 : Hid (Pgd (w5.setCell ⟨gp, s.length, none⟩ (.slice x m d)) base (.slice (some ⟨gp, 0, none⟩) qn qc) ((s ++ [[]]).set s.length (Lf.enc (l, ks)))) := (W4.out.pgs.below B5.out).set (show s.length < (s ++ [[]]).length by simp) hrb
       have R5 : Hid (Row w5 g 107 [Value.slice (some ⟨gp, 0, none⟩) qn qc, kv, tv]) := W4.out.row.below B5.out
       have hgp : g ≠ gp := fun e => W4.out.ne (by rw [e]; rfl)
       have R6 : Hid (Row (w5.setCell ⟨gp, s.length, none⟩ (.slice x m d)) g 107 [Value.slice (some ⟨gp, 0, none⟩) qn qc, kv, tv]) := R5.out.keep (Below.heap_setCell _ _ _ _ (fun e => hgp e))
       have W6 : Hid (Wr (w5.setCell ⟨gp, s.length, none⟩ (.slice x m d)) g base (.slice (some ⟨gp, 0, none⟩) qn qc) ((s ++ [[]]).set s.length (Lf.enc (l, ks))) kv tv) := ⟨R6.out, P6.out, by rw [List.length_set]; exact W4.out.few, by have := W4.out.size; have := B5.out.size; simp [World.setCell]; omega⟩
       have T6 : Hid (WTurn g v w (.slice (some ⟨gp, 0, none⟩) qn qc) (w5.setCell ⟨gp, s.length, none⟩ (.slice x m d))) := T4.out.trans ⟨(Turn.of B5.out).set (p := ⟨gp, s.length, none⟩) (.inr (mem_WS.2 (.inr rfl))) _, fun b e => .inl e⟩
       have r0 := R5.out.cell (j := 0) rfl
       have haz : (s.length : Int) < (qn : Int) := by have := HQN.out; omega
       clear hok hE hL hm5 hrb hgp
       go_wp2_with (go_at_call 64; refine (q4Q _).mono ?_; rintro e w' ⟨rfl, rfl⟩)
       go_ret
       exact AddDone.yes HA.out rfl W6.out T6.out
 · obtain ⟨i, hi⟩ := Int.eq_ofNat_of_zero_le (show 0 ≤ Tr.freeAt s by omega)
   have HSl : Hid (Tr.slot s = i ∧ i < s.length) := Tr.slot_of.2 i hi
   rw [hi]
   clear hfa hi
   have hi2 : ¬ (i : Int) < 0 := by omega
   have HI : Hid (rItms.rd w0 P [.slice a n c] l) := Rep.below hL0 B0.out
   have HK : Hid (rKids.rd w0 P [.slice a' n' c'] ks) := Rep.below hK0 B0.out
   clear hL0 hK0
   go_wp2_with fail
   go_at_call 104
   refine (qZx _ P P a a' n c n' c' l ks HI.out HK.out).mono ?_
   rintro e w5 ⟨x, m, d, rfl, ho5, b5⟩
   have HO5 : Hid _ := ho5
   have B5 : Hid _ := b5
   clear ho5 b5
   cases hok : Lf.ok (l, ks)
   · have HA : Hid (Tr.add s (l, ks) = .error 9) := by unfold Hid Tr.add; rw [if_neg (by rw [HSl.out.1]; have := HWr.out.few; have := HSl.out.2; omega), hok]; rfl
     have hE : Lf.encodeE (l, ks) = 9 := by unfold Lf.encodeE; rw [hok]; rfl
     rw [hE]
     clear hok hE
     go_wp2_with (go_at_call 64; refine (q6z _).mono ?_; rintro e w' ⟨rfl, rfl⟩)
     exact ⟨rfl, AddDone.no HA.out ((WTurn.of (g := g) (v := v) B0.out).turn.on B5.out)⟩
   · have HA : Hid (Tr.add s (l, ks) = .ok (s.set i (Lf.enc (l, ks)), (i : Int) + 1)) := by unfold Hid Tr.add; rw [if_neg (by rw [HSl.out.1]; have := HWr.out.few; have := HSl.out.2; omega), if_pos hok]; rw [HSl.out.1, Tr.putAt, if_pos HSl.out.2]
     have hE : Lf.encodeE (l, ks) = 0 := by unfold Lf.encodeE; rw [hok]; rfl
     have hL : Lf.encodeL (l, ks) = Lf.enc (l, ks) := by unfold Lf.encodeL; rw [hok]; rfl
     rw [hE]
     obtain ⟨gp, cp, ev, ⟨x1, m1, d1, hc1⟩, hf1⟩ := (W0.out.pgs.below B5.out).some_ (i := i) HSl.out.2
     obtain ⟨rfl, -, rfl⟩ : pa = some ⟨gp, 0, none⟩ ∧ True ∧ pc = cp := by simp only [Value.slice.injEq] at ev; exact ⟨ev.1, trivial, ev.2.2⟩
     clear ev
     have hm5 : m ≤ 64 := by
      have h1 := HO5.out.1
      rw [hL] at h1
      have h2 := Lf.enc_len (Lf.ok_iff.1 hok)
      simp [cellsOf, h2] at h1
      omega
     have hrb : rBytes.rd w5 (Lie w5 base (.slice (some ⟨gp, 0, none⟩) s.length pc)) [.slice x m d] (Lf.enc (l, ks)) := by
      have := qUz (w := w0) (base := base) (v := Value.slice (some ⟨gp, 0, none⟩) s.length pc) HO5.out hm5 W0.out.size (fun b hb => (W0.out.pgs.lt b hb).2)
      rw [hL] at this
      exact this
     have P6 : Hid (Pgd (w5.setCell ⟨gp, i, none⟩ (.slice x m d)) base (.slice (some ⟨gp, 0, none⟩) s.length pc) (s.set i (Lf.enc (l, ks)))) := (W0.out.pgs.below B5.out).set HSl.out.2 hrb
     have R5 : Hid (Row w5 g 107 [Value.slice (some ⟨gp, 0, none⟩) s.length pc, kv, tv]) := W0.out.row.below B5.out
     have hgp : g ≠ gp := fun e => W0.out.ne (by rw [e]; rfl)
     have R6 : Hid (Row (w5.setCell ⟨gp, i, none⟩ (.slice x m d)) g 107 [Value.slice (some ⟨gp, 0, none⟩) s.length pc, kv, tv]) := R5.out.keep (Below.heap_setCell _ _ _ _ (fun e => hgp e))
     have W6 : Hid (Wr (w5.setCell ⟨gp, i, none⟩ (.slice x m d)) g base (.slice (some ⟨gp, 0, none⟩) s.length pc) (s.set i (Lf.enc (l, ks))) kv tv) := ⟨R6.out, P6.out, by rw [List.length_set]; exact W0.out.few, by have := W0.out.size; have := B5.out.size; simp [World.setCell]; omega⟩
     have T6 : Hid (WTurn g v w (.slice (some ⟨gp, 0, none⟩) s.length pc) (w5.setCell ⟨gp, i, none⟩ (.slice x m d))) := (show WTurn g v w (Value.slice (some ⟨gp, 0, none⟩) s.length pc) w0 from by rw [← HVv.out]; exact WTurn.of B0.out).trans ⟨(Turn.of B5.out).set (p := ⟨gp, i, none⟩) (.inr (mem_WS.2 (.inr rfl))) _, fun b e => .inl e⟩
     have r0 := R5.out.cell (j := 0) rfl
     have haz : (i : Int) < (s.length : Int) := by have := HSl.out.2; omega
     clear hok hE hL hm5 hrb hgp
     go_wp2_with (go_at_call 64; refine (q4Q _).mono ?_; rintro e w' ⟨rfl, rfl⟩)
     go_ret
     exact AddDone.yes HA.out rfl W6.out T6.out
namespace Tr
theorem over_next {l : List Brn} (h : l ≠ []) (b : Brn) : over (l ++ [b]) = ((over l).1 ++ [(b.1, 0)], (over l).2 ++ [b.2]) := by
 cases l with
 | nil => exact absurd rfl h
 | cons x l => simp [over]
theorem over_take {g : List Brn} {j : Nat} (h : j < g.length) (h0 : 0 < j) : over (g.take (j + 1)) = ((over (g.take j)).1 ++ [(g[j].1, 0)], (over (g.take j)).2 ++ [g[j].2]) := by
 rw [List.take_succ_eq_append_getElem h, over_next]
 intro e
 have := congrArg List.length e
 rw [zw4] at this
 simp only [List.length_nil] at this
 omega
end Tr
theorem csize_u (w : World) (a a' : Option Addr) (n c n' c' : Nat) (hn : n ≤ 1000000) (hn' : n' ≤ 1000000) :
 Calls Tryz.prog 81 #[.agg #[.slice a n c, .slice a' n' c']] w fun e w' => e = .returned (.int .i64 ((n : Int) + (n' : Int))) ∧ Below w.heap.size w w' := by
 obtain ⟨w0, hw0, V0, b0, z0⟩ := q0q w 111 [.slice a n c, .slice a' n' c']
 obtain ⟨r0, r1⟩ := V0.two
 have B0 : Hid _ := b0
 clear V0 b0 z0
 go_enter Tryz.func81, Tryz.ntmps81
 go_wp2
 go_ret
 exact ⟨rfl, B0.out⟩
theorem qUZ (w : World) (P : Nat → Prop) (a : Option Addr) (n c : Nat) (g : List Brn) (hG : rBrns.rd w P [.slice a n c] g) (hn : n ≤ 1000) (hpg : ∀ b ∈ g, -9223372036854775808 ≤ b.2 ∧ b.2 ≤ 9223372036854775807) :
 Calls Tryz.prog 79 #[.slice a n c] w fun e w' => ∃ ia il ic ka kl kc, e = .returned (.agg #[.slice ia il ic, .slice ka kl kc]) ∧ OwnI 45 w' w.heap.size (.slice ia il ic) (Tr.over g).1 ∧ OwnK 3 w' w.heap.size (.slice ka kl kc) (Tr.over g).2 ∧ Below w.heap.size w w' := by
 have HG : Hid _ := hG
 have HN : Hid (g.length = n) := (q0x hG).1
 have HPg : Hid _ := hpg
 obtain ⟨w1, hw1, V1, b1, z1⟩ := q0q w 63 [.slice none 0 0, .slice none 0 0]
 obtain ⟨w2, hw2, V2, b2, z2⟩ := q0q w1 63 [.slice none 0 0, .slice none 0 0]
 have HV1 : Hid _ := V1.below b2
 have HV2 : Hid _ := V2
 have B2 : Hid (Below w.heap.size w w2) := on b1 b2
 have HZ : Hid (w.heap.size < w1.heap.size ∧ w1.heap.size < w2.heap.size) := ⟨by omega, by omega⟩
 clear hG hpg V1 V2 b1 b2 z1 z2
 go_enter Tryz.func79, Tryz.ntmps79
 go_wp2
 go_loopw [8] (fun i wr => ∃ (j : Nat) (ia : Option Addr) (il ic : Nat) (ka : Option Addr) (kl kc : Nat), j ≤ n ∧ i = .int .i64 j ∧ Hid (Row wr w1.heap.size 63 [.slice ia il ic, .slice ka kl kc]) ∧ Hid (Turn [w1.heap.size] w2 wr) ∧
  Hid (OwnI 45 wr w2.heap.size (.slice ia il ic) (Tr.over (g.take j)).1) ∧ Hid (OwnK 3 wr w2.heap.size (.slice ka kl kc) (Tr.over (g.take j)).2) ∧ Hid (∀ b, (Value.slice ia il ic).ownBlock = some b → (Value.slice ka kl kc).ownBlock ≠ some b)) (fun i _ => n - (intOf i).toNat)
 case atStart => exact ⟨0, none, 0, 0, none, 0, 0, Nat.zero_le _, rfl, HV2, Turn.refl _ _, by rw [List.take_zero]; exact OwnI.nil _ _ _, by rw [List.take_zero]; exact OwnK.nil _ _ _, (fun b h => by cases h)⟩
 case round =>
  obtain ⟨j, ia, il, ic, ka, kl, kc, hj, rfl, HR, HT, HI, HK, HD⟩ := hrel
  by_cases hlt : j < n
  · have BR : Below w.heap.size w wr := B2.out.trans (HT.out.below B2.out.size (by have := HZ.out; simp; omega))
    obtain ⟨gb, off, rfl, -, -, hat⟩ := q2j (Rep.below HG.out BR) (by omega)
    have hjg : j < g.length := by rw [HN.out]; exact hlt
    obtain ⟨c0, c1⟩ := hat j hjg
    obtain ⟨Y, hY⟩ : ∃ Y, Y = g[j] := ⟨_, rfl⟩
    have HB : Hid (-9223372036854775808 ≤ Y.2 ∧ Y.2 ≤ 9223372036854775807) := by rw [hY]; exact HPg.out _ (List.getElem_mem hjg)
    rw [← hY] at c0 c1
    have HY : Hid (g[j]'(by rw [HN.out]; exact hlt) = Y) := hY.symm
    have HIl : Hid ((Tr.over (g.take j)).1.length = il) := by obtain ⟨a, c, e, -⟩ := HI.out.slice; simp only [Value.slice.injEq] at e; exact e.2.1.symm
    have HKl : Hid ((Tr.over (g.take j)).2.length = kl) := by obtain ⟨a, c, e, -⟩ := HK.out.slice; simp only [Value.slice.injEq] at e; exact e.2.1.symm
    have hil : il ≤ 1000 := by rw [← HIl.out]; simp [Tr.over]; omega
    have hkl : kl ≤ 1000 := by rw [← HKl.out]; show (List.map _ _).length ≤ _; rw [List.length_map, zw4]; omega
    have hjz : (j : Int) < (n : Int) := by omega
    obtain ⟨w3, hw3, V3, b3, z3⟩ := q0q wr 133 [.int .u64 (Y.1.toNat : Int), .int .i64 Y.2]
    obtain ⟨t0, t1⟩ := V3.two
    clear hat hY hjg BR
    by_cases hj0 : j = 0
    · subst hj0
      simp only [Nat.zero_mul, Nat.add_zero] at c0 c1
      have HNx : Hid (Tr.over (g.take (0 + 1)) = ((Tr.over (g.take 0)).1, (Tr.over (g.take 0)).2 ++ [Y.2])) := by
       unfold Hid
       rw [List.take_succ_eq_append_getElem (by rw [HN.out]; exact hlt), HY.out]
       simp [Tr.over]
      have KO : Hid _ := HK.out.below b3
      obtain ⟨v7, w7, hr7, ho7, g7⟩ := q2J KO.out Y.2 HB.out (by rw [HKl.out]; omega) (by have := HT.out.size; have := b3.size; omega) 25
      obtain ⟨wk, hwk⟩ : ∃ wk, w3.alloc (.cells #[.int .i64 Y.2] 3) = wk := ⟨_, rfl⟩
      rw [hwk] at hr7 g7
      have bk : Below w3.heap.size w3 wk := by rw [← hwk]; exact (Below.refl _ _).alloc (zw0 _) _
      obtain ⟨qa, qn, qc, rfl⟩ : ∃ a n c, v7 = .slice a n c := by obtain ⟨a, c, e, -⟩ := ho7.slice; exact ⟨a, _, c, e⟩
      have RK : Row w7 w1.heap.size 63 [.slice ia il ic, .slice ka kl kc] := ((HR.out.below b3).below bk).grew g7 (fun e => by have := (KO.out.row.lt _ e).1; have := HZ.out; omega)
      have HR8 : Hid (Row (w7.setCell ⟨w1.heap.size, 1, none⟩ (.slice qa qn qc)) w1.heap.size 63 [.slice ia il ic, .slice qa qn qc]) := RK.set 1 _
      have IOw : OwnI 45 w3 w2.heap.size (.slice ia il ic) ((Tr.over (g.take 0)).1) := HI.out.below b3
      have I7 : OwnI 45 w7 w2.heap.size (.slice ia il ic) ((Tr.over (g.take 0)).1) := (IOw.below bk).keep1 (fun b hb => g7.grown.block b (Nat.lt_of_lt_of_le (IOw.row.lt b hb).2 bk.size) (fun e => (HD.out) b hb e.symm))
      have HI8 : Hid (OwnI 45 (w7.setCell ⟨w1.heap.size, 1, none⟩ (.slice qa qn qc)) w2.heap.size (.slice ia il ic) (Tr.over (g.take (0 + 1))).1) := by
       rw [HNx.out]
       exact I7.setB (p := ⟨w1.heap.size, 1, none⟩) HZ.out.2 _
      have HK8 : Hid (OwnK 3 (w7.setCell ⟨w1.heap.size, 1, none⟩ (.slice qa qn qc)) w2.heap.size (.slice qa qn qc) (Tr.over (g.take (0 + 1))).2) := by
       rw [HNx.out]
       exact ho7.setB (p := ⟨w1.heap.size, 1, none⟩) HZ.out.2 _
      have HD8 : Hid (∀ b, (.slice ia il ic : Value).ownBlock = some b → (Value.slice qa qn qc).ownBlock ≠ some b) := fun b hb e => by
       rcases g7.place b e with k | k
       · exact (HD.out) b hb k
       · have := (IOw.row.lt b hb).2; have := bk.size; omega
      have HT8 : Hid (Turn [w1.heap.size] w2 (w7.setCell ⟨w1.heap.size, 1, none⟩ (.slice qa qn qc))) := by
       refine Turn.set (p := ⟨w1.heap.size, 1, none⟩) ?_ (.inr (by simp)) _
       have t1 := (HT.out.on b3).on bk
       exact ⟨g7.grown.os.trans t1.os, g7.grown.tape.trans t1.tape, g7.grown.output.trans t1.output, zw1 t1.size g7.grown.size, fun b hb => (g7.grown.block b (Nat.lt_of_lt_of_le hb.1 t1.size) (fun e => by have := (KO.out.row.lt b e.symm).1; have := hb.1; omega)).trans (t1.block b hb)⟩
      have s0 := RK.cell (j := 0) rfl
      have s1 := RK.cell (j := 1) rfl
      have s2 := RK.frozen 1
      have HRun : Hid _ := hr7
      clear hr7 ho7 g7 RK I7 IOw bk
      obtain ⟨n0, n1⟩ := (HR.out.below b3).two
      clear b3 V3 z3
      go_wp2_with (at_builtin; refine Lib.wpList_append_run _ rfl _ _ _ _ rfl _ _ rfl rfl _ _ HRun.out ?_)
      go_roundw
      case rel => exact ⟨0 + 1, _, _, _, qa, qn, qc, by omega, by go_num, HR8, HT8, HI8, HK8, HD8⟩
      case measure => simp [intOf]; omega
    · have hj1 : (j : Int) > 0 := by omega
      have HNx : Hid (Tr.over (g.take (j + 1)) = ((Tr.over (g.take j)).1 ++ [(Y.1, 0)], (Tr.over (g.take j)).2 ++ [Y.2])) := by
       unfold Hid
       rw [Tr.over_take (by rw [HN.out]; exact hlt) (by omega), HY.out]
      have O3 : OwnI 45 w3 w2.heap.size (.slice ia il ic) (Tr.over (g.take j)).1 := HI.out.below b3
      obtain ⟨v4, w4, hr4, ho4, g4⟩ := q5z O3 (Y.1, 0) (by rw [HIl.out]; omega) (by have := HT.out.size; have := b3.size; omega) 36
      obtain ⟨wi, hwi⟩ : ∃ wi, w3.alloc (.cells #[.int .u64 (Y.1.toNat : Int), .int .u64 0] 45) = wi := ⟨_, rfl⟩
      have hwi2 : w3.alloc (.cells #[.int .u64 (((Y.1, (0 : UInt64)) : Itm).1.toNat : Int), .int .u64 (((Y.1, (0 : UInt64)) : Itm).2.toNat : Int)] 45) = wi := hwi
      rw [hwi2] at hr4 g4
      have bi : Below w3.heap.size w3 wi := by rw [← hwi]; exact (Below.refl _ _).alloc (zw0 _) _
      obtain ⟨ja, jn, jc, rfl⟩ : ∃ a n c, v4 = .slice a n c := by obtain ⟨a, c, e, -⟩ := ho4.slice; exact ⟨a, _, c, e⟩
      have R4 : Row w4 w1.heap.size 63 [.slice ia il ic, .slice ka kl kc] := ((HR.out.below b3).below bi).grew g4 (fun e => by have := (O3.row.lt _ e).1; have := HZ.out; omega)
      have R5 : Hid (Row (w4.setCell ⟨w1.heap.size, 0, none⟩ (.slice ja jn jc)) w1.heap.size 63 [.slice ja jn jc, .slice ka kl kc]) := R4.set 0 _
      have I5 : Hid (OwnI 45 (w4.setCell ⟨w1.heap.size, 0, none⟩ (.slice ja jn jc)) w2.heap.size (.slice ja jn jc) ((Tr.over (g.take j)).1 ++ [(Y.1, 0)])) := ho4.setB (p := ⟨w1.heap.size, 0, none⟩) HZ.out.2 _
      have K3 : OwnK 3 w3 w2.heap.size (.slice ka kl kc) (Tr.over (g.take j)).2 := HK.out.below b3
      have K4 : OwnK 3 w4 w2.heap.size (.slice ka kl kc) (Tr.over (g.take j)).2 := (K3.below bi).keep1 (fun b hb => g4.grown.block b (Nat.lt_of_lt_of_le (K3.row.lt b hb).2 bi.size) (fun e => HD.out b e.symm hb))
      have K5 : Hid (OwnK 3 (w4.setCell ⟨w1.heap.size, 0, none⟩ (.slice ja jn jc)) w2.heap.size (.slice ka kl kc) (Tr.over (g.take j)).2) := K4.setB (p := ⟨w1.heap.size, 0, none⟩) HZ.out.2 _
      have D5 : Hid (∀ b, (Value.slice ja jn jc).ownBlock = some b → (Value.slice ka kl kc).ownBlock ≠ some b) := fun b hb e => by
       rcases g4.place b hb with k | k
       · exact HD.out b k e
       · have := (K3.row.lt b e).2; have := bi.size; omega
      have T5 : Hid (Turn [w1.heap.size] w2 (w4.setCell ⟨w1.heap.size, 0, none⟩ (.slice ja jn jc))) := by
       refine Turn.set (p := ⟨w1.heap.size, 0, none⟩) ?_ (.inr (by simp)) _
       have t1 := (HT.out.on b3).on bi
       exact ⟨g4.grown.os.trans t1.os, g4.grown.tape.trans t1.tape, g4.grown.output.trans t1.output, zw1 t1.size g4.grown.size, fun b hb => (g4.grown.block b (Nat.lt_of_lt_of_le hb.1 t1.size) (fun e => by have := (O3.row.lt b e.symm).1; have := hb.1; omega)).trans (t1.block b hb)⟩
      have X4 : Hid (Row (w4.setCell ⟨w1.heap.size, 0, none⟩ (.slice ja jn jc)) wr.heap.size 133 [.int .u64 (Y.1.toNat : Int), .int .i64 Y.2]) := by
       have h1 := V3.below bi
       have hs : w2.heap.size ≤ wr.heap.size := HT.out.size
       refine (h1.grew g4 (fun e => ?_)).setO (p := ⟨w1.heap.size, 0, none⟩) (by have := HZ.out; show w1.heap.size ≠ wr.heap.size; omega) _
       have := (HI.out.row.lt _ e).2
       omega
      obtain ⟨n0, n1⟩ := (HR.out.below b3).two
      have u0 := R4.cell (j := 0) rfl
      have u1 := R4.cell (j := 1) rfl
      have u2 := R4.frozen 0
      have HRun4 : Hid _ := hr4
      have HS5 : Hid (w2.heap.size ≤ (w4.setCell ⟨w1.heap.size, 0, none⟩ (.slice ja jn jc)).heap.size) := T5.out.size
      clear hr4 ho4 g4 bi R4 K3 K4 O3 b3 V3 z3
      obtain ⟨w5, hw5⟩ : ∃ w5, w4.setCell ⟨w1.heap.size, 0, none⟩ (.slice ja jn jc) = w5 := ⟨_, rfl⟩
      rw [hw5] at R5 I5 K5 T5 X4 HS5
      have KO : Hid (OwnK 3 w5 w2.heap.size (.slice ka kl kc) (Tr.over (g.take j)).2) := K5.out
      obtain ⟨v7, w7, hr7, ho7, g7⟩ := q2J KO.out Y.2 HB.out (by rw [HKl.out]; omega) (by have := HT.out.size; have := HS5.out; omega) 25
      obtain ⟨wk, hwk⟩ : ∃ wk, w5.alloc (.cells #[.int .i64 Y.2] 3) = wk := ⟨_, rfl⟩
      rw [hwk] at hr7 g7
      have bk : Below w5.heap.size w5 wk := by rw [← hwk]; exact (Below.refl _ _).alloc (zw0 _) _
      obtain ⟨qa, qn, qc, rfl⟩ : ∃ a n c, v7 = .slice a n c := by obtain ⟨a, c, e, -⟩ := ho7.slice; exact ⟨a, _, c, e⟩
      have RK : Row w7 w1.heap.size 63 [.slice ja jn jc, .slice ka kl kc] := ((R5.out).below bk).grew g7 (fun e => by have := (KO.out.row.lt _ e).1; have := HZ.out; omega)
      have HR8 : Hid (Row (w7.setCell ⟨w1.heap.size, 1, none⟩ (.slice qa qn qc)) w1.heap.size 63 [.slice ja jn jc, .slice qa qn qc]) := RK.set 1 _
      have IOw : OwnI 45 w5 w2.heap.size (.slice ja jn jc) ((Tr.over (g.take j)).1 ++ [(Y.1, 0)]) := I5.out
      have I7 : OwnI 45 w7 w2.heap.size (.slice ja jn jc) ((Tr.over (g.take j)).1 ++ [(Y.1, 0)]) := (IOw.below bk).keep1 (fun b hb => g7.grown.block b (Nat.lt_of_lt_of_le (IOw.row.lt b hb).2 bk.size) (fun e => (D5.out) b hb e.symm))
      have HI8 : Hid (OwnI 45 (w7.setCell ⟨w1.heap.size, 1, none⟩ (.slice qa qn qc)) w2.heap.size (.slice ja jn jc) (Tr.over (g.take (j + 1))).1) := by
       rw [HNx.out]
       exact I7.setB (p := ⟨w1.heap.size, 1, none⟩) HZ.out.2 _
      have HK8 : Hid (OwnK 3 (w7.setCell ⟨w1.heap.size, 1, none⟩ (.slice qa qn qc)) w2.heap.size (.slice qa qn qc) (Tr.over (g.take (j + 1))).2) := by
       rw [HNx.out]
       exact ho7.setB (p := ⟨w1.heap.size, 1, none⟩) HZ.out.2 _
      have HD8 : Hid (∀ b, (.slice ja jn jc : Value).ownBlock = some b → (Value.slice qa qn qc).ownBlock ≠ some b) := fun b hb e => by
       rcases g7.place b e with k | k
       · exact (D5.out) b hb k
       · have := (IOw.row.lt b hb).2; have := bk.size; omega
      have HT8 : Hid (Turn [w1.heap.size] w2 (w7.setCell ⟨w1.heap.size, 1, none⟩ (.slice qa qn qc))) := by
       refine Turn.set (p := ⟨w1.heap.size, 1, none⟩) ?_ (.inr (by simp)) _
       have t1 := (T5.out).on bk
       exact ⟨g7.grown.os.trans t1.os, g7.grown.tape.trans t1.tape, g7.grown.output.trans t1.output, zw1 t1.size g7.grown.size, fun b hb => (g7.grown.block b (Nat.lt_of_lt_of_le hb.1 t1.size) (fun e => by have := (KO.out.row.lt b e.symm).1; have := hb.1; omega)).trans (t1.block b hb)⟩
      have s0 := RK.cell (j := 0) rfl
      have s1 := RK.cell (j := 1) rfl
      have s2 := RK.frozen 1
      have HRun : Hid _ := hr7
      clear hr7 ho7 g7 RK I7 IOw bk
      obtain ⟨m0, m1⟩ := R5.out.two
      obtain ⟨x0, x1⟩ := X4.out.two
      go_wp2_with (at_builtin; first | (refine Lib.wpList_append_run _ rfl _ _ _ _ rfl _ _ rfl rfl _ _ HRun4.out ?_) |  (refine Lib.wpList_append_run _ rfl _ _ _ _ rfl _ _ rfl rfl _ _ HRun.out ?_))
      go_roundw
      case rel => exact ⟨j + 1, _, _, _, qa, qn, qc, by omega, by go_num, HR8, HT8, HI8, HK8, HD8⟩
      case measure => simp [intOf]; omega
  · obtain rfl : n = j := by omega
    obtain ⟨n0, n1⟩ := HR.out.two
    have HI9 : Hid (OwnI 45 wr w2.heap.size (.slice ia il ic) (Tr.over g).1) := by have h := HI.out; rw [List.take_of_length_le (by rw [HN.out]; exact zw0 _)] at h; exact h
    have HK9 : Hid (OwnK 3 wr w2.heap.size (.slice ka kl kc) (Tr.over g).2) := by have h := HK.out; rw [List.take_of_length_le (by rw [HN.out]; exact zw0 _)] at h; exact h
    have RV : Hid (Row wr w.heap.size 63 [.slice none 0 0, .slice none 0 0]) := HT.out.row HV1.out (by have := HZ.out; simp; omega)
    have BR : Hid (Below w.heap.size w wr) := B2.out.trans (HT.out.below B2.out.size (by have := HZ.out; simp; omega))
    obtain ⟨m0, m1⟩ := RV.out.two
    have f0 := RV.out.frozen 0
    have f1 := RV.out.frozen 1
    have HS : Hid (w.heap.size < w2.heap.size) := by have := HZ.out; unfold Hid; omega
    go_wp2
    exact qAx RV.out BR.out (zw0 _) _ _ rfl rfl Tryz.underlying63 rfl (by kernel_rfl) (fun w' k' b' => ⟨ia, il, ic, ka, kl, kc, rfl, (HI9.out.keptL k' HS.out).mono (by have := HS.out; omega), (HK9.out.keptL k' HS.out).mono (by have := HS.out; omega), b'⟩)
open Go.Shelf
attribute [local go_sem] Oper.semAt_some
def q6J (b : Nat) : Nat → Nat → Nat → Nat → List (Array Value)
 | 0, _, _, _ => []
 | c + 1, off, n, cap => #[.slice (some ⟨b, off, none⟩) ((n + c) / (c + 1)) cap] :: q6J b c (off + (n + c) / (c + 1) * 2) (n - (n + c) / (c + 1)) (cap - (n + c) / (c + 1))
theorem q7Q (b : Nat) : ∀ (c off n cap : Nat), (q6J b c off n cap).length = c
 | 0, _, _, _ => rfl
 | c + 1, off, n, cap => by unfold q6J; rw [List.length_cons, q7Q b c]
def qJq (n most : Nat) : Nat := (n + most - 1) / most
theorem gk_le (n c : Nat) : (n + c) / (c + 1) ≤ n := by
 rw [Nat.div_le_iff_le_mul_add_pred (by omega)]
 have : n ≤ (c + 1) * n := Nat.le_mul_of_pos_left n (by omega)
 omega
def GRel (J : Nat → World → Prop) (gl : List (Array Value)) (b K0 n : Nat) (v i : Value) (wr : World) : Prop :=
 ∃ c' j : Nat, i = .int .i64 c' ∧ j + c' = K0 ∧ Hid (J j wr) ∧ (0 < c' → ∃ off' n' cap', v = .slice (some ⟨b, off', none⟩) n' cap' ∧ n' ≤ cap' ∧ n' ≤ n ∧ c' ≤ n' ∧ Hid (q6J b c' off' n' cap' = gl.drop j))
theorem GRel.of {J : Nat → World → Prop} {gl : List (Array Value)} {b K0 n : Nat} {v i : Value} {wr : World}
 (h : ∃ c' j : Nat, i = .int .i64 c' ∧ j + c' = K0 ∧ Hid (J j wr) ∧ (0 < c' → ∃ off' n' cap', v = .slice (some ⟨b, off', none⟩) n' cap' ∧ n' ≤ cap' ∧ n' ≤ n ∧ c' ≤ n' ∧ Hid (q6J b c' off' n' cap' = gl.drop j))) : GRel J gl b K0 n v i wr := h
theorem gk_left {n c : Nat} (h : c + 1 ≤ n) : c ≤ n - (n + c) / (c + 1) := by
 have h1 : (n + c) / (c + 1) * (c + 1) ≤ n + c := Nat.div_mul_le_self _ _
 generalize (n + c) / (c + 1) = k at *
 by_cases hk : k ≤ n - c
 · omega
 · have : (n - c + 1) * (c + 1) ≤ k * (c + 1) := Nat.mul_le_mul_right _ (by omega)
   have h2 : (n - c + 1) * (c + 1) = (n - c) * c + (n - c) + c + 1 := by rw [Nat.add_mul, Nat.mul_add]; omega
   have h3 : c ≤ (n - c) * c := Nat.le_mul_of_pos_left c (by omega)
   omega
theorem qMX {n most : Nat} (hm : 1 ≤ most) : qJq n most ≤ n := by
 unfold qJq
 rw [Nat.div_le_iff_le_mul_add_pred (by omega)]
 have : n ≤ most * n := Nat.le_mul_of_pos_left n (by omega)
 omega
theorem groupsI_u (w : World) (a : Option Addr) (n c : Nat) (m : Int) :
 Calls Tryz.prog 76 #[.slice a n c, .int .i64 m] w fun e w' => e = .returned (.func (.func 101) #[] #[.pointer (some ⟨w.heap.size, 0, none⟩), .pointer (some ⟨w.heap.size + 1, 0, none⟩)]) ∧ w' = (w.alloc (.cells #[.slice a n c] 36)).alloc (.cells #[.int .i64 m] 3) := by
 have hmf : ∀ (fn : Fn) (first cap : Array Value) (w : World), (Instr.makeFunc fn first cap).run Tryz.prog w = .ok (.func fn first cap) w := fun _ _ _ _ => rfl
 go_enter Tryz.func76, Tryz.ntmps76
 go_wp2
 go_ret
 exact ⟨rfl, rfl⟩
theorem qYJ (bl bm b off n c most : Nat) (hm : 1 ≤ most) (hm2 : most ≤ 1000) (hn : n ≤ 1000000) (hc : n ≤ c) :
 Hands Tryz.prog 101 #[.pointer (some ⟨bl, 0, none⟩), .pointer (some ⟨bm, 0, none⟩)] (q6J b (qJq n most) off n c) (fun W => W.cell? ⟨bl, 0, none⟩ = some (.slice (some ⟨b, off, none⟩) n c) ∧ W.cell? ⟨bm, 0, none⟩ = some (.int .i64 (most : Int))) := by
 intro N l J X W hW hY h0
 obtain ⟨c0, c1⟩ := hW
 have HY : Hid _ := hY
 have HJ0 : Hid (J 0 W) := h0
 have hdv : ((n : Int) + (most : Int) - 1) / (most : Int) = ((qJq n most : Nat) : Int) := by
  unfold qJq
  rw [show (n : Int) + (most : Int) - 1 = ((n + most - 1 : Nat) : Int) by omega]
  rfl
 have hgm : qJq n most ≤ 1001000 := by
  have : qJq n most ≤ n + most - 1 := Nat.div_le_self _ _
  omega
 obtain ⟨K0, hK0⟩ : ∃ K0, K0 = qJq n most := ⟨_, rfl⟩
 have hKn := qMX (n := n) hm
 rw [← hK0] at hdv hgm HY hKn ⊢
 have HDV : Hid _ := hdv
 clear hY h0 hK0 hdv
 refine callsIn_of_wp Tryz.func101 rfl trivial ?_ rfl
 simp only [Tryz.ntmps101, List.size_toArray, List.length_cons, List.length_nil, Nat.reduceAdd, Nat.reduceSub, Array.replicate_succ, Array.replicate_zero, List.push_toArray, List.append_toArray, List.nil_append, List.cons_append]
 gi_wp2
 gi_loopw [4, 5] (fun v i wr => GRel J (q6J b K0 off n c) b K0 n v i wr) (fun _ i _ => (intOf i).toNat)
 case atStart => exact GRel.of ⟨K0, 0, by rw [HDV.out], by omega, HJ0, fun _ => ⟨off, n, c, rfl, hc, zw0 _, hKn, rfl⟩⟩
 case round =>
  obtain ⟨c', j, rfl, hj, HJ, hv⟩ := hrel
  have HRJ : Hid (j + c' = K0) := hj
  cases c' with
  | zero =>
    gi_wp2
    go_end0
    refine .inl ⟨_, rfl, ?_⟩
    rw [q7Q]
    have : j = K0 := by omega
    rw [← this]
    exact HJ.out
  | succ c' =>
    obtain ⟨off', n', cap', rfl, hnc, hnn, hcn, HG⟩ := hv (by omega)
    have hk := gk_le n' c'
    have hkl := gk_left hcn
    obtain ⟨k, hkd⟩ : ∃ k, k = (n' + c') / (c' + 1) := ⟨_, rfl⟩
    have hd2 : ((n' : Int) + ((c' : Int) + 1) - 1) / ((c' : Int) + 1) = (k : Int) := by
     rw [hkd, show (n' : Int) + ((c' : Int) + 1) - 1 = ((n' + c' : Nat) : Int) by omega]
     rfl
    rw [← hkd] at hk hkl
    have HG2 : Hid (#[.slice (some ⟨b, off', none⟩) k cap'] :: q6J b c' (off' + k * 2) (n' - k) (cap' - k) = (q6J b K0 off n c).drop j) := by
     rw [hkd]
     exact HG.out
    have hat : (q6J b K0 off n c)[j]? = some #[.slice (some ⟨b, off', none⟩) k cap'] := by
     have := congrArg (fun l => l[0]?) HG2.out
     simp only [List.getElem?_cons_zero, List.getElem?_drop, Nat.add_zero] at this
     exact this.symm
    obtain ⟨fn, tmps, assign, body, hy, hR⟩ := HY.out j _ wr hat HJ.out
    have HG3 : Hid (q6J b c' (off' + k * 2) (n' - k) (cap' - k) = (q6J b K0 off n c).drop (j + 1)) := by
     have := congrArg (fun l => l.drop 1) HG2.out
     simp only [List.drop_succ_cons, List.drop_zero, List.drop_drop] at this
     exact this
    have hc1 : ((c' + 1 : Nat) : Int) > 0 := by omega
    have hkc : (k : Int) ≤ (cap' : Int) := by omega
    clear hv hat HG HG2 hkd
    gi_wp2
    refine ⟨(fun h => by cases h), hR.mono ?_⟩
    rintro e W3 (⟨rfl, hJ3⟩ | ⟨ch, rfl, hX⟩)
    · have HJ3 : Hid (J (j + 1) W3) := hJ3
      clear hJ3 hR hy
      by_cases hkc2 : k < cap'
      · have hkz : (k : Int) < (cap' : Int) := by omega
        gi_wp2
        go_roundw
        case rel => exact GRel.of (J := J) (gl := q6J b K0 off n c) (K0 := K0) (n := n) ⟨c', j + 1, by go_num, by have := HRJ.out; omega, HJ3, fun h => ⟨off' + k * 2, n' - k, cap' - k, by go_num, by omega, by omega, by omega, HG3⟩⟩
        case measure => simp [intOf]
      · have hkz : ¬ (k : Int) < (cap' : Int) := by omega
        gi_wp2
        all_goals
         go_roundw
         case rel => exact GRel.of (J := J) (gl := q6J b K0 off n c) (K0 := K0) (n := n) ⟨c', j + 1, by go_num, by have := HRJ.out; omega, HJ3, fun h => by omega⟩
         case measure => simp [intOf]
    · gi_wp2
      exact ⟨rfl, .inr ⟨ch, rfl, hX⟩⟩
theorem qSJ (bl bm c most : Nat) (a : Option Addr) (hm : 1 ≤ most) (hm2 : most ≤ 1000) :
 Hands Tryz.prog 101 #[.pointer (some ⟨bl, 0, none⟩), .pointer (some ⟨bm, 0, none⟩)] [] (fun W => W.cell? ⟨bl, 0, none⟩ = some (.slice a 0 c) ∧ W.cell? ⟨bm, 0, none⟩ = some (.int .i64 (most : Int))) := by
 intro N l J X W hW hY h0
 obtain ⟨c0, c1⟩ := hW
 have HJ0 : Hid (J 0 W) := h0
 have hdv : ((0 : Int) + (most : Int) - 1) / (most : Int) = 0 := Int.ediv_eq_zero_of_lt (by omega) (by omega)
 have HDV : Hid _ := hdv
 have hdv2 : ((most : Int) - 1) / (most : Int) = 0 := Int.ediv_eq_zero_of_lt (by omega) (by omega)
 have HDV2 : Hid _ := hdv2
 clear hY h0 hdv hdv2
 refine callsIn_of_wp Tryz.func101 rfl trivial ?_ rfl
 simp only [Tryz.ntmps101, List.size_toArray, List.length_cons, List.length_nil, Nat.reduceAdd, Nat.reduceSub, Array.replicate_succ, Array.replicate_zero, List.push_toArray, List.append_toArray, List.nil_append, List.cons_append]
 gi_wp2
 gi_loopw [5] (fun i wr => i = .int .i64 0 ∧ Hid (J 0 wr)) (fun _ _ => 0)
 case atStart => exact ⟨by first | rw [HDV2.out] | rw [HDV.out], HJ0⟩
 case round =>
  obtain ⟨rfl, HJ⟩ := hrel
  gi_wp2
  go_end0
  exact .inl ⟨_, rfl, HJ.out⟩
theorem groupsB_u (w : World) (a : Option Addr) (n c : Nat) (m : Int) :
 Calls Tryz.prog 78 #[.slice a n c, .int .i64 m] w fun e w' => e = .returned (.func (.func 105) #[] #[.pointer (some ⟨w.heap.size, 0, none⟩), .pointer (some ⟨w.heap.size + 1, 0, none⟩)]) ∧ w' = (w.alloc (.cells #[.slice a n c] 109)).alloc (.cells #[.int .i64 m] 3) := by
 have hmf : ∀ (fn : Fn) (first cap : Array Value) (w : World), (Instr.makeFunc fn first cap).run Tryz.prog w = .ok (.func fn first cap) w := fun _ _ _ _ => rfl
 go_enter Tryz.func78, Tryz.ntmps78
 go_wp2
 go_ret
 exact ⟨rfl, rfl⟩
theorem qYX (bl bm b off n c most : Nat) (hm : 1 ≤ most) (hm2 : most ≤ 1000) (hn : n ≤ 1000000) (hc : n ≤ c) :
 Hands Tryz.prog 105 #[.pointer (some ⟨bl, 0, none⟩), .pointer (some ⟨bm, 0, none⟩)] (q6J b (qJq n most) off n c) (fun W => W.cell? ⟨bl, 0, none⟩ = some (.slice (some ⟨b, off, none⟩) n c) ∧ W.cell? ⟨bm, 0, none⟩ = some (.int .i64 (most : Int))) := by
 intro N l J X W hW hY h0
 obtain ⟨c0, c1⟩ := hW
 have HY : Hid _ := hY
 have HJ0 : Hid (J 0 W) := h0
 have hdv : ((n : Int) + (most : Int) - 1) / (most : Int) = ((qJq n most : Nat) : Int) := by
  unfold qJq
  rw [show (n : Int) + (most : Int) - 1 = ((n + most - 1 : Nat) : Int) by omega]
  rfl
 have hgm : qJq n most ≤ 1001000 := by
  have : qJq n most ≤ n + most - 1 := Nat.div_le_self _ _
  omega
 obtain ⟨K0, hK0⟩ : ∃ K0, K0 = qJq n most := ⟨_, rfl⟩
 have hKn := qMX (n := n) hm
 rw [← hK0] at hdv hgm HY hKn ⊢
 have HDV : Hid _ := hdv
 clear hY h0 hK0 hdv
 refine callsIn_of_wp Tryz.func105 rfl trivial ?_ rfl
 simp only [Tryz.ntmps105, List.size_toArray, List.length_cons, List.length_nil, Nat.reduceAdd, Nat.reduceSub, Array.replicate_succ, Array.replicate_zero, List.push_toArray, List.append_toArray, List.nil_append, List.cons_append]
 gi_wp2
 gi_loopw [4, 5] (fun v i wr => GRel J (q6J b K0 off n c) b K0 n v i wr) (fun _ i _ => (intOf i).toNat)
 case atStart => exact GRel.of ⟨K0, 0, by rw [HDV.out], by omega, HJ0, fun _ => ⟨off, n, c, rfl, hc, zw0 _, hKn, rfl⟩⟩
 case round =>
  obtain ⟨c', j, rfl, hj, HJ, hv⟩ := hrel
  have HRJ : Hid (j + c' = K0) := hj
  cases c' with
  | zero =>
    gi_wp2
    go_end0
    refine .inl ⟨_, rfl, ?_⟩
    rw [q7Q]
    have : j = K0 := by omega
    rw [← this]
    exact HJ.out
  | succ c' =>
    obtain ⟨off', n', cap', rfl, hnc, hnn, hcn, HG⟩ := hv (by omega)
    have hk := gk_le n' c'
    have hkl := gk_left hcn
    obtain ⟨k, hkd⟩ : ∃ k, k = (n' + c') / (c' + 1) := ⟨_, rfl⟩
    have hd2 : ((n' : Int) + ((c' : Int) + 1) - 1) / ((c' : Int) + 1) = (k : Int) := by
     rw [hkd, show (n' : Int) + ((c' : Int) + 1) - 1 = ((n' + c' : Nat) : Int) by omega]
     rfl
    rw [← hkd] at hk hkl
    have HG2 : Hid (#[.slice (some ⟨b, off', none⟩) k cap'] :: q6J b c' (off' + k * 2) (n' - k) (cap' - k) = (q6J b K0 off n c).drop j) := by
     rw [hkd]
     exact HG.out
    have hat : (q6J b K0 off n c)[j]? = some #[.slice (some ⟨b, off', none⟩) k cap'] := by
     have := congrArg (fun l => l[0]?) HG2.out
     simp only [List.getElem?_cons_zero, List.getElem?_drop, Nat.add_zero] at this
     exact this.symm
    obtain ⟨fn, tmps, assign, body, hy, hR⟩ := HY.out j _ wr hat HJ.out
    have HG3 : Hid (q6J b c' (off' + k * 2) (n' - k) (cap' - k) = (q6J b K0 off n c).drop (j + 1)) := by
     have := congrArg (fun l => l.drop 1) HG2.out
     simp only [List.drop_succ_cons, List.drop_zero, List.drop_drop] at this
     exact this
    have hc1 : ((c' + 1 : Nat) : Int) > 0 := by omega
    have hkc : (k : Int) ≤ (cap' : Int) := by omega
    clear hv hat HG HG2 hkd
    gi_wp2
    refine ⟨(fun h => by cases h), hR.mono ?_⟩
    rintro e W3 (⟨rfl, hJ3⟩ | ⟨ch, rfl, hX⟩)
    · have HJ3 : Hid (J (j + 1) W3) := hJ3
      clear hJ3 hR hy
      by_cases hkc2 : k < cap'
      · have hkz : (k : Int) < (cap' : Int) := by omega
        gi_wp2
        go_roundw
        case rel => exact GRel.of (J := J) (gl := q6J b K0 off n c) (K0 := K0) (n := n) ⟨c', j + 1, by go_num, by have := HRJ.out; omega, HJ3, fun h => ⟨off' + k * 2, n' - k, cap' - k, by go_num, by omega, by omega, by omega, HG3⟩⟩
        case measure => simp [intOf]
      · have hkz : ¬ (k : Int) < (cap' : Int) := by omega
        gi_wp2
        all_goals
         go_roundw
         case rel => exact GRel.of (J := J) (gl := q6J b K0 off n c) (K0 := K0) (n := n) ⟨c', j + 1, by go_num, by have := HRJ.out; omega, HJ3, fun h => by omega⟩
         case measure => simp [intOf]
    · gi_wp2
      exact ⟨rfl, .inr ⟨ch, rfl, hX⟩⟩
theorem qSX (bl bm c most : Nat) (a : Option Addr) (hm : 1 ≤ most) (hm2 : most ≤ 1000) :
 Hands Tryz.prog 105 #[.pointer (some ⟨bl, 0, none⟩), .pointer (some ⟨bm, 0, none⟩)] [] (fun W => W.cell? ⟨bl, 0, none⟩ = some (.slice a 0 c) ∧ W.cell? ⟨bm, 0, none⟩ = some (.int .i64 (most : Int))) := by
 intro N l J X W hW hY h0
 obtain ⟨c0, c1⟩ := hW
 have HJ0 : Hid (J 0 W) := h0
 have hdv : ((0 : Int) + (most : Int) - 1) / (most : Int) = 0 := Int.ediv_eq_zero_of_lt (by omega) (by omega)
 have HDV : Hid _ := hdv
 have hdv2 : ((most : Int) - 1) / (most : Int) = 0 := Int.ediv_eq_zero_of_lt (by omega) (by omega)
 have HDV2 : Hid _ := hdv2
 clear hY h0 hdv hdv2
 refine callsIn_of_wp Tryz.func105 rfl trivial ?_ rfl
 simp only [Tryz.ntmps105, List.size_toArray, List.length_cons, List.length_nil, Nat.reduceAdd, Nat.reduceSub, Array.replicate_succ, Array.replicate_zero, List.push_toArray, List.append_toArray, List.nil_append, List.cons_append]
 gi_wp2
 gi_loopw [5] (fun i wr => i = .int .i64 0 ∧ Hid (J 0 wr)) (fun _ _ => 0)
 case atStart => exact ⟨by first | rw [HDV2.out] | rw [HDV.out], HJ0⟩
 case round =>
  obtain ⟨rfl, HJ⟩ := hrel
  gi_wp2
  go_end0
  exact .inl ⟨_, rfl, HJ.out⟩
end Go.Proofs.YtkbmadoaomoojaaGreat
