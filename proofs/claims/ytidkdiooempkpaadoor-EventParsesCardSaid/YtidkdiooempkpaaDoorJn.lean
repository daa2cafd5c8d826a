/- strings.Join at this program, as the shelf gives it; as a given function of the pure reading. -/
import Derived.Test.YtidkdiooempkpaaDoorSh
import Derived.Shelf.Strings.OnBuilder
namespace Go.Proofs.YtidkdiooempkpaaDoor
open Go Go.RowKit
set_option linter.unusedVariables false
set_option linter.unusedSectionVars false

def strsOf : List (List PV) → Option (List (List UInt8))
  | [] => some []
  | [.str s] :: r => match strsOf r with
    | some l => some (s :: l)
    | none => none
  | _ => none
def joinS (sep : List UInt8) : List (List UInt8) → List UInt8
  | [] => []
  | s :: r => match r with
    | [] => s
    | _ :: _ => s ++ (sep ++ joinS sep r)
def xJoin : List PV → Option PV
  | [.sl ex e rows, .str sep] => if e = 1 then match strsOf rows with
      | some l => if l.length ≤ 1000000 ∧ (joinS sep l).length ≤ 1000000 then some (.str (joinS sep l)) else none
      | none => none
    else none
  | _ => none
theorem strsOf_get : ∀ {rows : List (List PV)} {l : List (List UInt8)}, strsOf rows = some l → rows = l.map fun s => [.str s]
  | [], l, h => by simp only [strsOf, Option.some.injEq] at h; subst h; rfl
  | r :: rows, l, h => by
    unfold strsOf at h
    split at h
    · rename_i h0; cases h0
    · rename_i s r' he
      cases he
      split at h
      · rename_i l' hl
        cases h
        rw [strsOf_get hl]
        rfl
      · cases h
    · cases h
theorem joinS_eq (sep : List UInt8) : ∀ l : List (List UInt8), joinS sep l = Lib.join l sep
  | [] => rfl
  | [s] => (Lib.join_one s sep).symm
  | s :: t :: r => by
    have ih := joinS_eq sep (t :: r)
    rw [joinS, ih]
    simp [Lib.join, List.intercalate]
variable [Bs]
theorem ext32 : ExtOk Tryd.prog 32 xJoin := by
  refine extOk_of ?_
  intro args r h
  unfold xJoin at h
  split at h
  · rename_i ex e rows sep
    split at h
    · rename_i he
      subst he
      split at h
      · rename_i l hl
        split at h
        · rename_i hn
          cases h
          refine ⟨⟨Tryd.f32, Tryd.func32, rfl, by decide⟩, fun m w vs hlen hr hf => ?_⟩
          obtain ⟨u, v, rfl, h0, h1⟩ := args2 hlen hr
          obtain ⟨sp, rfl, rfl⟩ := str_inv h1
          have hrows := strsOf_get hl
          have hrl : rows.length = l.length := by rw [hrows]; simp
          obtain ⟨base, cap, rfl, c1, c2, c3, c4⟩ := sl_inv h0
          have fin : ∀ w', Below w.heap.size w w' → RetOk m w w' (.str (joinS sp.data.toList l)) (.string ⟨(joinS sp.data.toList l).toArray⟩) := fun w' hb => by
            refine ret_plain hf hb rfl (fun _ => rfl) fun mb K => ?_
            have : Rep ⟨m.cell, mb⟩ K (.str (ByteArray.mk (joinS sp.data.toList l).toArray).data.toList) (.string ⟨(joinS sp.data.toList l).toArray⟩) := .str
            simpa using this
          rcases c4 with c4 | ⟨b, off, rfl, c5, c6⟩
          · subst c4
            have l0 : l = [] := by cases l with | nil => rfl | cons a t => simp at hrows
            subst l0
            refine (Any.strings_Join_none Tryd.lays156 Tryd.Builder_Extra_156 base cap sp w).mono ?_
            rintro e w' ⟨rfl, rfl⟩
            exact ⟨_, rfl, fin _ (Below.refl _ _)⟩
          · have hget : ∀ (j : Nat) (x : ByteArray), (l.map fun s => (⟨s.toArray⟩ : ByteArray))[j]? = some x → w.cell? ⟨b, off + j, none⟩ = some (.string x) := by
              intro j x hx
              rw [List.getElem?_map, Option.map_eq_some_iff] at hx
              obtain ⟨s, hs, rfl⟩ := hx
              have hrow : rows[j]? = some [.str s] := by rw [hrows, List.getElem?_map, hs]; rfl
              obtain ⟨u, hu, hru⟩ := c6 j [.str s] 0 (.str s) hrow rfl
              obtain ⟨s', rfl, e'⟩ := str_inv hru
              have := (hf.1 _ _ _ hu).1
              rw [Nat.mul_one, Nat.add_zero] at this
              rw [this]
              congr 2
              cases s' with
              | mk d => simp only at e' ⊢; rw [← e']
            cases l with
            | nil =>
              have r0 : rows = [] := by simpa using hrows
              subst r0
              refine (Any.strings_Join_none Tryd.lays156 Tryd.Builder_Extra_156 _ cap sp w).mono ?_
              rintro e w' ⟨rfl, rfl⟩
              exact ⟨_, rfl, fin _ (Below.refl _ _)⟩
            | cons a t =>
              have hb : b < w.heap.size := by
                have := hget 0 ⟨a.toArray⟩ rfl
                apply Decidable.byContradiction
                intro hn
                have hx : w.heap[b]? = none := by rw [Array.getElem?_eq_none_iff]; omega
                simp [World.cell?, hx] at this
              have hm : ((a :: t).map fun s => (⟨s.toArray⟩ : ByteArray)).map (·.data.toList) = a :: t := by
                rw [List.map_map]
                conv => rhs; rw [← List.map_id (a :: t)]
                apply List.map_congr_left
                intro s _
                simp
              have hlen' : ((a :: t).map fun s => (⟨s.toArray⟩ : ByteArray)).length = rows.length := by rw [hrl]; simp
              have c := Any.strings_Join Tryd.lays156 Tryd.Builder_Extra_156 b off cap ((a :: t).map fun s => (⟨s.toArray⟩ : ByteArray)) sp w hget hb (by rw [hlen', hrl]; omega) (by rw [hlen']; exact c1) (by rw [hm, ← joinS_eq]; omega)
              rw [hlen'] at c
              refine c.mono ?_
              rintro e w' ⟨rfl, hb'⟩
              rw [hm, ← joinS_eq]
              exact ⟨_, rfl, fin _ hb'⟩
        · cases h
      · cases h
    · cases h
  · cases h
end Go.Proofs.YtidkdiooempkpaaDoor
