/- Functions that the model stands in for: Add64, the comparison of strings. -/
import Derived.Test.YtecmcggnpgjbiaaEvLp
import Derived.Test.YtecmcggnpgjbiaaProg
import Derived.Laws.Externs
import Derived.Lib.Bytealg
namespace Go.Proofs.Ytecmcggnpgjbiaa
open Go Go.RowKit
set_option linter.unusedVariables false
set_option linter.unusedSectionVars false

def xAdd64 : List PV → Option PV
  | [.int .u64 x, .int .u64 y, .int .u64 c] => if 0 ≤ x ∧ 0 ≤ y ∧ 0 ≤ c ∧ c ≤ 1 then some (.tup [.int .u64 ((x + y + c) % 18446744073709551616), .int .u64 ((x + y + c) / 18446744073709551616)]) else none
  | _ => none
def xCmp : List PV → Option PV
  | [.str a, .str b] => some (.int .i64 (Lib.compareBytes a b))
  | _ => none
variable [Bs]
/-- a result without slices -/
theorem ret_plain {m : Mem} {w w' : World} {r : PV} {v : Value} (hf : FrzOk m w) (hb : Below w.heap.size w w') (h0 : impB r = []) (h1 : ∀ K, impV K r = r) (hr : ∀ mb K, Rep ⟨m.cell, mb⟩ K r v) : RetOk m w w' r v :=
  ⟨hb, m.cell, [], fun _ _ _ h => h, fun _ _ _ h => .inl h, ⟨fun b o v hc => (frz_grow hf hb.block).1 b o v hc, (frz_grow hf hb.block).2⟩, by rw [h0]; rfl, fun j x i hj => by simp [h0] at hj, fun j i j' i' hj => by simp at hj, fun K mb _ => by rw [h1]; exact hr _ _⟩
theorem args3 {m : Mem} {p q r : PV} {vs : Array Value} (hl : [p, q, r].length = vs.size) (hr : ∀ (i : Nat) (x : PV), [p, q, r][i]? = some x → Rep m 0 x (vs.getD i undef)) : ∃ u v w, vs = #[u, v, w] ∧ Rep m 0 p u ∧ Rep m 0 q v ∧ Rep m 0 r w := by
  have h0 := hr 0 _ rfl
  have h1 := hr 1 _ rfl
  have h2 := hr 2 _ rfl
  obtain ⟨l⟩ := vs
  match l, hl with
  | [u, v, w], _ => exact ⟨u, v, w, rfl, h0, h1, h2⟩
theorem args2 {m : Mem} {p q : PV} {vs : Array Value} (hl : [p, q].length = vs.size) (hr : ∀ (i : Nat) (x : PV), [p, q][i]? = some x → Rep m 0 x (vs.getD i undef)) : ∃ u v, vs = #[u, v] ∧ Rep m 0 p u ∧ Rep m 0 q v := by
  have h0 := hr 0 _ rfl
  have h1 := hr 1 _ rfl
  obtain ⟨l⟩ := vs
  match l, hl with
  | [u, v], _ => exact ⟨u, v, rfl, h0, h1⟩
theorem ext50 : ExtOk Try.prog 50 xAdd64 := by
  intro args r h m w vs hl hr hf
  unfold xAdd64 at h
  split at h
  · rename_i x y c
    split at h
    · rename_i hc
      cases h
      obtain ⟨u, v, z, rfl, h0, h1, h2⟩ := args3 hl hr
      cases h0; cases h1; cases h2
      refine .inr ⟨⟨_, Try.func50, by kernel_rfl⟩, .tuple #[.int .u64 ((x + y + c) % 18446744073709551616), .int .u64 ((x + y + c) / 18446744073709551616)], ?_, _, rfl, ret_plain hf (Below.refl _ _) rfl (fun _ => rfl) (fun mb K => ?_)⟩
      · rw [run_callFunc_extern Try.func50 (by kernel_rfl) (by kernel_rfl) (by kernel_rfl) (e := add64Entry) (by kernel_rfl), run_add64 x y c hc.1 hc.2.1 hc.2.2.1 hc.2.2.2]
        rfl
      · refine .tup rfl (fun i p hp => ?_)
        match i, hp with
        | 0, hp => simp at hp; subst hp; exact .int
        | 1, hp => simp at hp; subst hp; exact .int
        | i + 2, hp => simp at hp
    · cases h
  · cases h
theorem ext67 : ExtOk Try.prog 67 xCmp := by
  intro args r h m w vs hl hr hf
  unfold xCmp at h
  split at h
  · rename_i a b
    cases h
    obtain ⟨u, v, rfl, h0, h1⟩ := args2 hl hr
    obtain ⟨s1, rfl, rfl⟩ := str_inv h0
    obtain ⟨s2, rfl, rfl⟩ := str_inv h1
    refine .inr ⟨⟨_, Try.func67, by kernel_rfl⟩, .int .i64 (Lib.compareBytes s1.data.toList s2.data.toList), ?_, _, rfl, ret_plain hf (Below.refl _ _) rfl (fun _ => rfl) (fun mb K => .int)⟩
    rw [run_callFunc_extern Try.func67 (by kernel_rfl) (by kernel_rfl) (by kernel_rfl) (e := Extern.BytealgCompare.compare) (by kernel_rfl), Lib.run_compareString]
    rfl
  · cases h
end Go.Proofs.Ytecmcggnpgjbiaa
