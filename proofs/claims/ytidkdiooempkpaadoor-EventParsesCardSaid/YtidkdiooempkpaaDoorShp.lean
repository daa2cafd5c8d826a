/- event: what a listed table of structs of numbers, texts and truths holds, cell for cell. -/
import Derived.Test.YtidkdiooempkpaaDoorEvP
import Derived.Test.YtidkdiooempkpaaDoorRows
import Derived.LaidMore
import Derived.OpenShut
import Derived.ProofKit
import Derived.Stop.Joined
import Derived.Lib.LaidTab
namespace Go.Proofs.YtidkdiooempkpaaDoor
open Go Go.RowKit Go.ChangeShapes Go.WideShapes Go.ChangeAt
set_option linter.unusedVariables false

section
variable {H : Type} {enc : TypeId × Value → H} {P : Program} {w : World} {base : Nat} {sp : Nat → Bool} {held : Bool}
def Scalar (P : Program) (t : TypeId) : Prop := P.underlying t = some .bool ∨ (∃ k, P.underlying t = some (.int k)) ∨ P.underlying t = some .string
theorem str_value (s : ByteArray) : Value.string s = (Lit.string s.data.toList).value := by
  show Value.string s = Value.string ⟨s.data.toList.toArray⟩
  congr
theorem lit_cell {fuel : Nat} {t : TypeId} {cs : List Value} {l : Lit} {p : List MemPlace} (hu : Scalar P t) (h : DataW.trod enc P w base sp held fuel t cs = some (.lit l, p)) : cs = [l.value] := by
  cases fuel with
  | zero => simp [DataW.trod] at h
  | succ f =>
    rcases cs with _ | ⟨c, _ | ⟨c2, r⟩⟩
    · rcases hu with hu | ⟨k, hu⟩ | hu <;> simp [DataW.trod, hu] at h
    · rcases hu with hu | ⟨k, hu⟩ | hu
      · cases c <;> simp [DataW.trod, hu] at h
        obtain ⟨rfl, _⟩ := h
        rfl
      · cases c <;> simp [DataW.trod, hu] at h
        obtain ⟨⟨rfl, _⟩, rfl, _⟩ := h
        rfl
      · cases c <;> simp [DataW.trod, hu] at h
        obtain ⟨_, rfl, _⟩ := h
        rw [str_value]
    · rcases hu with hu | ⟨k, hu⟩ | hu <;> simp [DataW.trod, hu] at h
theorem row_cells {fuel : Nat} {t : TypeId} {cs : List Value} {fs : Array Field} {ls : List Lit} {p : List MemPlace} (hu : P.underlying t = some (.struct fs)) (hct : P.cellsOf t = fs.toList.length)
    (hof : ∀ (i : Nat) (f : Field), fs.toList[i]? = some f → f.offset = i ∧ P.cellsOf f.type = 1 ∧ Scalar P f.type) (h : DataW.trod enc P w base sp held fuel t cs = some (.agg (ls.map DataW.lit), p)) : cs = ls.map Lit.value := by
  cases fuel with
  | zero => simp [DataW.trod] at h
  | succ fuel =>
    simp only [DataW.trod, hu, hct] at h
    split at h
    · rename_i hl
      obtain ⟨xs, hm, hx⟩ := Option.map_eq_some_iff.1 h
      have hxs : xs.map (·.1) = ls.map DataW.lit := by
        have := congrArg Prod.fst hx
        simpa using this
      have hxl : xs.length = fs.toList.length := by simpa using Lib.mapM_length hm
      have hll : ls.length = fs.toList.length := by
        have := congrArg List.length hxs
        simp at this
        rw [← hxl]
        simpa using this.symm
      apply List.ext_getElem?
      intro i
      by_cases hi : i < fs.toList.length
      · have hf0 := List.getElem?_eq_getElem hi
        obtain ⟨b, hb, hf⟩ := Lib.mapM_at hm i _ hf0
        obtain ⟨o1, o2, o3⟩ := hof i _ hf0
        have hli : i < ls.length := by omega
        have hbl : b.1 = DataW.lit ls[i] := by
          have e1 : (xs.map (·.1))[i]? = some b.1 := by rw [List.getElem?_map, hb]; rfl
          rw [hxs, List.getElem?_map, List.getElem?_eq_getElem hli] at e1
          exact (Option.some.inj e1).symm
        rw [o1, o2] at hf
        obtain ⟨b1, b2⟩ := b
        simp only at hbl
        subst hbl
        have hc := lit_cell o3 hf
        have := congrArg (·[0]?) hc
        simp only [List.getElem?_take, List.getElem?_drop] at this
        simp only [Nat.add_zero, Nat.zero_lt_one, if_true, List.getElem?_cons_zero] at this
        rw [this, List.getElem?_map, List.getElem?_eq_getElem hli]
        rfl
      · rw [List.getElem?_eq_none (by omega), List.getElem?_eq_none (by simp; omega)]
    · cases h
theorem chunk_flat {c : Nat} : ∀ (L : List (List Value)) (cs : List Value), cs.length = L.length * c → (∀ i row, L[i]? = some row → (cs.drop (i * c)).take c = row) → cs = L.flatten
  | [], cs, h, _ => by
    have : cs.length = 0 := by simpa using h
    simpa using List.eq_nil_of_length_eq_zero this
  | row :: L, cs, h, hr => by
    have h0 := hr 0 row rfl
    simp only [Nat.zero_mul, List.drop_zero] at h0
    have ih := chunk_flat L (cs.drop c) (by
      simp only [List.length_cons, Nat.add_mul, Nat.one_mul] at h
      rw [List.length_drop, h, Nat.add_sub_cancel]) (fun i row' hi => by
      have := hr (i + 1) row' (by simpa using hi)
      rw [List.drop_drop, show c + i * c = (i + 1) * c by rw [Nat.add_mul, Nat.one_mul]; omega]
      exact this)
    rw [List.flatten_cons, ← ih, ← h0, List.take_append_drop]
theorem tab_cells {fuel : Nat} {t e : TypeId} {n : Nat} {cs : List Value} {fs : Array Field} {L : List (List Lit)} {p : List MemPlace} (hu : P.underlying t = some (.array n e)) (hue : P.underlying e = some (.struct fs)) (hce : P.cellsOf e = fs.toList.length) (hct : P.cellsOf t = n * fs.toList.length)
    (hof : ∀ (i : Nat) (f : Field), fs.toList[i]? = some f → f.offset = i ∧ P.cellsOf f.type = 1 ∧ Scalar P f.type) (h : DataW.trod enc P w base sp held fuel t cs = some (.agg (L.map fun ls => .agg (ls.map DataW.lit)), p)) : cs = (L.map fun ls => ls.map Lit.value).flatten := by
  cases fuel with
  | zero => simp [DataW.trod] at h
  | succ fuel =>
    simp only [DataW.trod, hu, hct] at h
    split at h
    · rename_i hl
      obtain ⟨xs, hm, hx⟩ := Option.map_eq_some_iff.1 h
      have hxs : xs.map (·.1) = L.map fun ls => .agg (ls.map DataW.lit) := by
        have := congrArg Prod.fst hx
        simpa using this
      have hxl : xs.length = n := by simpa using Lib.mapM_length hm
      have hll : L.length = n := by
        have := congrArg List.length hxs
        simp at this
        omega
      refine chunk_flat (c := fs.toList.length) _ cs (by rw [hl, List.length_map, hll]) (fun i row hi => ?_)
      rw [List.getElem?_map, Option.map_eq_some_iff] at hi
      obtain ⟨ls, hls, rfl⟩ := hi
      have hin : i < n := by have := (List.getElem?_eq_some_iff.1 hls).1; omega
      obtain ⟨b, hb, hf⟩ := Lib.mapM_at hm i i (by simp [hin])
      have hbl : b.1 = .agg (ls.map DataW.lit) := by
        have e1 : (xs.map (·.1))[i]? = some b.1 := by rw [List.getElem?_map, hb]; rfl
        rw [hxs, List.getElem?_map, hls] at e1
        exact (Option.some.inj e1).symm
      obtain ⟨b1, b2⟩ := b
      simp only at hbl
      subst hbl
      rw [hce] at hf
      exact row_cells hue hce hof hf
    · cases h
end
end Go.Proofs.YtidkdiooempkpaaDoor
