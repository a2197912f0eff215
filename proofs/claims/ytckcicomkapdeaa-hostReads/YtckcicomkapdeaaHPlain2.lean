/-
  Plain functions: what is read of a host, behind a barrier and behind a write. Conditions: those that each lemma names.
-/
import Derived.Test.YtckcicomkapdeaaHCalls
namespace Go.Proofs.Ytckcicomkapdeaa

theorem Hst.read_of {t : Host} {q : Int} (h : Hst.ok t = true) : Hst.readE t q = if 0 ≤ q ∧ q < ((Hst.flushS t).1.length : Int) then 0 else 4 := by unfold Hst.readE; rw [if_pos h]

theorem Hst.flush_write {s : Host} {p : Int} {D : List UInt8} (h : Hst.writeE s p D = 0) : Hst.flushS (Hst.writeS s p D) = ((Hst.flushS s).1.set p.toNat D, [], s.2.2) := by
  have hok := Hst.ok_write h
  have hs : Hst.writeS s p D = (s.1, s.2.1 ++ [(1, p, D)], s.2.2) := by simp [Hst.writeS, h]
  obtain ⟨h0, h1, h2, -⟩ := Hst.writeE_zero.1 h
  rw [Hst.flush_ok hok, hs, Hst.flush_ok h0]
  simp only
  rw [Hst.doneAll_snoc]
  rw [Hst.lengthN_ok h0] at h2
  simp only [Hst.all, if_true, Hst.done]
  rw [if_pos h2]

theorem Hst.ok_flush {s : Host} (h : Hst.ok s = true) : Hst.ok (Hst.flushS s) = true := by
  have : Hst.flushS s = Hst.settled s Hst.all := by unfold Hst.flushS; rw [if_pos h]
  rw [this]; exact Hst.ok_settled _ h

theorem Hst.flush_flush {s : Host} (h : Hst.ok s = true) : Hst.flushS (Hst.flushS s) = Hst.flushS s := by
  have e : Hst.flushS s = Hst.settled s Hst.all := by unfold Hst.flushS; rw [if_pos h]
  have h2 := Hst.ok_flush h
  rw [Hst.flush_ok h2, Hst.flush_ok h]
  rfl

theorem Hst.read_write {s : Host} {p : Int} {D : List UInt8} (h : Hst.writeE s p D = 0) :
    (Hst.readE (Hst.writeS s p D) p = 0 ∧ Hst.readL (Hst.writeS s p D) p = D) ∧ (Hst.readE (Hst.flushS (Hst.writeS s p D)) p = 0 ∧ Hst.readL (Hst.flushS (Hst.writeS s p D)) p = D) := by
  have hok := Hst.ok_write h
  have hok2 := Hst.ok_flush hok
  have hf := Hst.flush_write h
  obtain ⟨h0, h1, h2, -⟩ := Hst.writeE_zero.1 h
  rw [← Hst.flush_length h0] at h2
  have hlt : p.toNat < (Hst.flushS s).1.length := by omega
  have e1 : Hst.readE (Hst.writeS s p D) p = 0 := by rw [Hst.read_of hok, hf]; exact if_pos ⟨h1, by simp only [List.length_set]; exact h2⟩
  have e2 : Hst.readE (Hst.flushS (Hst.writeS s p D)) p = 0 := by rw [Hst.read_of hok2, Hst.flush_flush hok, hf]; exact if_pos ⟨h1, by simp only [List.length_set]; exact h2⟩
  refine ⟨⟨e1, ?_⟩, e2, ?_⟩
  · unfold Hst.readL; rw [if_pos e1, hf]; simp [hlt]
  · unfold Hst.readL; rw [if_pos e2, Hst.flush_flush hok, hf]; simp [hlt]

theorem Hst.read_others {s : Host} {p q : Int} {D : List UInt8} (h : Hst.writeE s p D = 0) :
    Hst.readE (Hst.flushS (Hst.writeS s p D)) q = Hst.readE s q ∧ (q ≠ p → Hst.readL (Hst.flushS (Hst.writeS s p D)) q = Hst.readL s q) := by
  have hok := Hst.ok_write h
  have hok2 := Hst.ok_flush hok
  have hf := Hst.flush_write h
  obtain ⟨h0, h1, h2, -⟩ := Hst.writeE_zero.1 h
  have e : Hst.readE (Hst.flushS (Hst.writeS s p D)) q = Hst.readE s q := by
    rw [Hst.read_of hok2, Hst.flush_flush hok, hf, Hst.read_of h0]
    simp only [List.length_set]
  refine ⟨e, fun hq => ?_⟩
  unfold Hst.readL
  rw [e]
  split
  · rename_i h4
    have h5 := Hst.readE_zero.1 h4
    rw [Hst.flush_flush hok, hf]
    simp only [List.getD_eq_getElem?_getD]
    rw [List.getElem?_set_ne (by omega)]
  · rfl

end Go.Proofs.Ytckcicomkapdeaa
