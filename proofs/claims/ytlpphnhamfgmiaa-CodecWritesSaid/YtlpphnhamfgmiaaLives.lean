import Derived.Test.YtlpphnhamfgmiaaPut
import Derived.Lib.SlBytesConst
namespace Go.Proofs.Ytlpphnhamfgmiaa
open Go.ChangeShapes Go.WideShapes Go.ChangeAt Go.RowKit

theorem inB_of_decide {l : List Int} (h : l.all (fun z => decide (0 ≤ z ∧ z ≤ 255)) = true) : InB l := by
  intro z hz
  have := List.all_eq_true.1 h z hz
  simpa using this

/-- a block whose cells are the bytes zs -/
theorem brow_new {w : World} {g : Nat} {zs : List Int} (h : ∀ j, j < zs.length → w.cell? ⟨g, j, none⟩ = some (.int .u8 (zs.getD j 0))) : BRow w (some ⟨g, 0, none⟩) zs :=
  .inr ⟨g, 0, rfl, fun j hj => by rw [Nat.zero_add]; exact h j hj⟩

/-- the slice that an owned row is -/
theorem own_slice {w : World} {base : Nat} {zs : List Int} {v : Value} {n : Nat} (h : w.ownsRow base 5 1 v n (zs.map (Value.int .u8))) (hn : 0 < n) :
    ∃ g c, v = .slice (some ⟨g, 0, none⟩) n c ∧ n = zs.length ∧ n ≤ c ∧ c ≤ maxLen ∧ base ≤ g ∧ g < w.heap.size ∧ ∀ j, j < zs.length → w.cell? ⟨g, j, none⟩ = some (.int .u8 (zs.getD j 0)) := by
  obtain ⟨h1, h2⟩ := h
  rcases h2 with ⟨_, h0⟩ | ⟨g, cap, cur, e1, e2, e3, e4, e5, e6, e7⟩
  · omega
  · refine ⟨g, cap, e1, by simpa using h1.symm, e4, e5, e2, ?_, fun j hj => ?_⟩
    · rcases Nat.lt_or_ge g w.heap.size with h | h
      · exact h
      · rw [Array.getElem?_eq_none h] at e3; cases e3
    · have hl : (zs.map (Value.int .u8)).length = n := by simpa using h1
      rw [cell_of_row w g j cur 5 (0, 0) e3, ← Array.getElem?_toList]
      have h5 : (cur.toList.take (n * 1))[j]? = (zs.map (Value.int .u8))[j]? := by rw [e7]
      rw [List.getElem?_take, if_pos (by simp at hl; omega)] at h5
      rw [h5]
      simp [List.getD, hj]

theorem sum_nine : crc [49, 50, 51, 52, 53, 54, 55, 56, 57] = 3421780262 := by decide +kernel
theorem enc300 : enc 300 = [216, 4] := by decide +kernel
theorem dec300 : dec [216, 4, 9] = (300, 2, 0) := by decide +kernel
theorem decT : decText [4, 97, 98, 7] 2 = ([97, 98], 3, 0) := by decide +kernel

set_option maxRecDepth 100000 in
set_option maxHeartbeats 1600000 in
theorem lives_any (w : World) : Calls Try.prog 11 #[] w fun e w' => e = .returned (.bool true) ∧ Below w.heap.size w w' := by
  go_enter Try.func11, Try.ntmps11
  go_wp2_with fail
  refine (int_row _ 3 _ [216, 4, 9] _ rfl (by decide) (inB_of_decide (by decide)) (brow_new fun j hj => ?_)).mono ?_
  · simp at hj
    rcases j with _ | _ | _ | j <;> first | omega | simp
  rw [dec300]
  rintro e w' ⟨he, rfl⟩
  unfold trip at he
  subst he
  go_wp2_with fail
  refine (text_any _ 4 _ 2 [4, 97, 98, 7] _ rfl (by decide) (by decide) (inB_of_decide (by decide)) (brow_new fun j hj => ?_)).mono ?_
  · simp at hj
    rcases j with _ | _ | _ | _ | j <;> first | omega | simp
  rw [decT]
  rintro e w' ⟨he, rfl⟩
  have hs2 : strOfNums [97, 98] = ⟨#[97, 98]⟩ := rfl
  simp only [tripT, hs2] at he
  subst he
  clear hs2
  go_wp2_with fail
  refine (putint_row none 0 [] 300 _ (by decide) (by decide) Reads.none_ (fun _ => rfl) (by decide) (by decide) (by decide)).mono ?_
  rintro e W ⟨v, rfl, hown, hbel⟩
  rw [enc300] at hown
  obtain ⟨g, c, rfl, _, hgc, hcm, hbg, hgl, hcell⟩ := own_slice hown (by simp)
  have hconv := run_convert_bytes_arg (P := Try.prog) W 22 5 Try.underlying22 Try.underlying5 g 0 2 c [216, 4] rfl (fun i hi => by rw [Nat.zero_add]; exact hcell i (by simpa using hi)) 9 Try.underlying9
  have hs2 : strOfNums [216, 4] = ⟨#[216, 4]⟩ := rfl
  rw [hs2] at hconv
  clear hs2 hcell hown
  have kc := fun (w : World) (C : Array Value) (n c : Nat) => Lib.run_convert_bytes_const (P := Try.prog) w 22 5 C n c Try.underlying22 Try.underlying5
  go_wp2_with fail
  refine (sum_row _ 9 _ [49, 50, 51, 52, 53, 54, 55, 56, 57] _ rfl (by decide) (inB_of_decide (by decide)) (brow_new fun j hj => ?_)).mono ?_
  · simp at hj
    rcases j with _ | _ | _ | _ | _ | _ | _ | _ | _ | j <;> first | omega | simp [World.cell?_alloc_mark]
  rw [sum_nine]
  rintro e w' ⟨rfl, rfl⟩
  go_wp2
  go_ret
  refine ⟨rfl, ?_⟩
  have h0 : Below w.heap.size w ((w.alloc (Obj.cells #[Value.int IntKind.u8 216, Value.int IntKind.u8 4, Value.int IntKind.u8 9] 5)).alloc
      (Obj.cells #[Value.int IntKind.u8 4, Value.int IntKind.u8 97, Value.int IntKind.u8 98, Value.int IntKind.u8 7] 5)) :=
    ((Below.refl _ _).alloc (Nat.le_refl _) _).alloc (by simp) _
  exact (h0.trans (hbel.mono h0.size)).alloc (Nat.le_trans h0.size hbel.size) _
end Go.Proofs.Ytlpphnhamfgmiaa
