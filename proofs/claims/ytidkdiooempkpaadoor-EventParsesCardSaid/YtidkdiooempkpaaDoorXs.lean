/- Functions that the model stands in for: the first byte of a kind in a text, and how many there are. -/
import Derived.Test.YtidkdiooempkpaaDoorGc
import Derived.Test.YtidkdiooempkpaaDoorProg
import Derived.Laws.Externs
import Derived.Lib.Bytealg
namespace Go.Proofs.YtidkdiooempkpaaDoor
open Go Go.RowKit
set_option linter.unusedVariables false
set_option linter.unusedSectionVars false

/-- where a byte stands first -/
def idxB (c : UInt8) : List UInt8 → Nat → Option Nat
  | [], _ => none
  | b :: l, i => if b == c then some i else idxB c l (i + 1)
def idxI (c : UInt8) (l : List UInt8) : Int := match idxB c l 0 with
  | some i => (i : Int)
  | none => -1
def cntB (c : UInt8) : List UInt8 → Nat
  | [] => 0
  | b :: l => if b == c then cntB c l + 1 else cntB c l
theorem idxB_eq (c : UInt8) : ∀ (l : List UInt8) (i : Nat), (match idxB c l i with | some j => (j : Int) | none => -1) = if Lib.indexByte l c = -1 then -1 else Lib.indexByte l c + i
  | [], i => by simp [idxB, Lib.indexByte]
  | b :: l, i => by
    have ih := idxB_eq c l (i + 1)
    have hg := Lib.indexByte_ge l c
    unfold idxB Lib.indexByte
    by_cases hb : (b == c) = true
    · rw [if_pos hb, if_pos hb]
      simp
    · rw [if_neg hb, if_neg hb, ih]
      by_cases hm : Lib.indexByte l c = -1
      · simp [hm]
      · have : (Lib.indexByte l c == -1) = false := by simpa using hm
        rw [if_neg hm, this]
        simp only [Bool.false_eq_true, if_false]
        rw [if_neg (by omega)]
        omega
theorem idxI_eq (c : UInt8) (l : List UInt8) : idxI c l = Lib.indexByte l c := by
  unfold idxI
  rw [idxB_eq]
  split
  · rename_i h; exact h.symm
  · simp
theorem cntB_eq (c : UInt8) : ∀ l : List UInt8, cntB c l = Lib.countByte l c
  | [] => rfl
  | b :: l => by
    have ih := cntB_eq c l
    unfold Lib.countByte at ih ⊢
    unfold cntB
    rw [List.count_cons]
    split <;> simp_all
def xIdx : List PV → Option PV
  | [.str l, .int .u8 c] => some (.int .i64 (idxI c.toNat.toUInt8 l))
  | _ => none
def xCnt : List PV → Option PV
  | [.str l, .int .u8 c] => some (.int .i64 (cntB c.toNat.toUInt8 l))
  | _ => none
variable [Bs]
/-- a result without slices -/
theorem ret_plainX {m : Mem} {w w' : World} {r : PV} {v : Value} (hf : FrzOk m w) (hb : Below w.heap.size w w') (h0 : impB r = []) (h1 : ∀ K, impV K r = r) (hr : ∀ mb K, Rep ⟨m.cell, mb⟩ K r v) : RetOk m w w' r v :=
  ⟨hb, m.cell, [], fun _ _ _ h => h, fun _ _ _ h => .inl h, ⟨fun b o v hc => (frz_grow hf hb.block).1 b o v hc, (frz_grow hf hb.block).2⟩, by rw [h0]; rfl, fun j x i hj => by simp [h0] at hj, fun j i j' i' hj => by simp at hj, fun K mb _ => by rw [h1]; exact hr _ _⟩
theorem args2 {m : Mem} {p q : PV} {vs : Array Value} (hl : [p, q].length = vs.size) (hr : ∀ (i : Nat) (x : PV), [p, q][i]? = some x → Rep m 0 x (vs.getD i undef)) : ∃ u v, vs = #[u, v] ∧ Rep m 0 p u ∧ Rep m 0 q v := by
  have h0 := hr 0 _ rfl
  have h1 := hr 1 _ rfl
  obtain ⟨l⟩ := vs
  match l, hl with
  | [u, v], _ => exact ⟨u, v, rfl, h0, h1⟩
theorem ext94 : ExtOk Tryd.prog 94 xIdx := by
  intro args r h m w vs hl hr hf
  unfold xIdx at h
  split at h
  · rename_i l c
    cases h
    obtain ⟨u, v, rfl, h0, h1⟩ := args2 hl hr
    obtain ⟨s1, rfl, rfl⟩ := str_inv h0
    cases h1
    refine .inr ⟨⟨_, Tryd.func94, by kernel_rfl⟩, .int .i64 (Lib.indexByte s1.data.toList c.toNat.toUInt8), ?_, _, rfl, ret_plainX hf (Below.refl _ _) rfl (fun _ => rfl) (fun mb K => by rw [idxI_eq]; exact .int)⟩
    rw [run_callFunc_extern Tryd.func94 (by kernel_rfl) (by kernel_rfl) (by kernel_rfl) (e := Extern.BytealgIndexByte.indexByte) (by kernel_rfl), Lib.run_indexByteString]
    rfl
  · cases h
theorem ext70 : ExtOk Tryd.prog 70 xCnt := by
  intro args r h m w vs hl hr hf
  unfold xCnt at h
  split at h
  · rename_i l c
    cases h
    obtain ⟨u, v, rfl, h0, h1⟩ := args2 hl hr
    obtain ⟨s1, rfl, rfl⟩ := str_inv h0
    cases h1
    refine .inr ⟨⟨_, Tryd.func70, by kernel_rfl⟩, .int .i64 (Lib.countByte s1.data.toList c.toNat.toUInt8), ?_, _, rfl, ret_plainX hf (Below.refl _ _) rfl (fun _ => rfl) (fun mb K => by rw [cntB_eq]; exact .int)⟩
    rw [run_callFunc_extern Tryd.func70 (by kernel_rfl) (by kernel_rfl) (by kernel_rfl) (e := Extern.BytealgCount.count) (by kernel_rfl), Lib.run_countString]
    rfl
  · cases h
end Go.Proofs.YtidkdiooempkpaaDoor
