/- Functions of the library that are given: strconv.Itoa, as the shelf gives it; Add64 and Sub64, for which the model stands in. -/
import Derived.Test.YtddglikicokpeaaDoorGc
import Derived.Test.YtddglikicokpeaaDoorRows
import Derived.Shelf.LaysM
import Derived.Shelf.Strconv.Itoa3
import Derived.Lib.QuietBelow
import Derived.Laws.Externs
namespace Go.Proofs
open Go.Shelf
def Tryd.laysM171_ren : Go.Shelf.Ren := ⟨fun | 171 => 55 | 243 => 65 | 246 => 67 | 283 => 69 | 284 => 70 | 285 => 71 | 286 => 72 | 129 => 68 | 317 => 73 | 318 => 74 | 319 => 75 | 320 => 76 | 337 => 77 | 338 => 78 | n => n, fun | 3 => 3 | 9 => 9 | 2 => 2 | 4 => 4 | 171 => 82 | 0 => 0 | 53 => 41 | 37 => 84 | 5 => 5 | 173 => 85 | 212 => 88 | 51 => 89 | 20 => 20 | 213 => 90 | 46 => 74 | 232 => 93 | 233 => 94 | n => n, fun | 17 => 2 | 18 => 3 | 19 => 4 | n => n⟩
theorem Tryd.laysM171 : Go.Proofs.LaysM.n171 Tryd.prog Tryd.laysM171_ren := {
  mixed := by kernel_rfl
  f129 := Tryd.func68.trans (congrArg some (by kernel_rfl))
  f171 := Tryd.func55.trans (congrArg some (by kernel_rfl))
  f243 := Tryd.func65.trans (congrArg some (by kernel_rfl))
  f246 := Tryd.func67.trans (congrArg some (by kernel_rfl))
  f283 := Tryd.func69.trans (congrArg some (by kernel_rfl))
  f284 := Tryd.func70.trans (congrArg some (by kernel_rfl))
  f285 := Tryd.func71.trans (congrArg some (by kernel_rfl))
  f286 := Tryd.func72.trans (congrArg some (by kernel_rfl))
  f317 := Tryd.func73.trans (congrArg some (by kernel_rfl))
  f318 := Tryd.func74.trans (congrArg some (by kernel_rfl))
  f319 := Tryd.func75.trans (congrArg some (by kernel_rfl))
  f320 := Tryd.func76.trans (congrArg some (by kernel_rfl))
  f337 := Tryd.func77.trans (congrArg some (by kernel_rfl))
  f338 := Tryd.func78.trans (congrArg some (by kernel_rfl))
  t0 := Tryd.underlying0
  a0 := Tryd.isAgg0
  z0 := Tryd.sizeOf0
  v0 := Tryd.zeroValue0
  t2 := Tryd.underlying2
  a2 := Tryd.isAgg2
  z2 := Tryd.sizeOf2
  v2 := Tryd.zeroValue2
  t3 := Tryd.underlying3
  a3 := Tryd.isAgg3
  z3 := Tryd.sizeOf3
  v3 := Tryd.zeroValue3
  t4 := Tryd.underlying4
  a4 := Tryd.isAgg4
  z4 := Tryd.sizeOf4
  v4 := Tryd.zeroValue4
  t5 := Tryd.underlying5
  a5 := Tryd.isAgg5
  z5 := Tryd.sizeOf5
  v5 := Tryd.zeroValue5
  t9 := Tryd.underlying9
  a9 := Tryd.isAgg9
  z9 := Tryd.sizeOf9
  v9 := Tryd.zeroValue9
  t20 := Tryd.underlying20
  a20 := Tryd.isAgg20
  z20 := Tryd.sizeOf20
  v20 := Tryd.zeroValue20
  t37 := Tryd.underlying84
  a37 := Tryd.isAgg84
  z37 := Tryd.sizeOf84
  v37 := Tryd.zeroValue84
  t46 := Tryd.underlying74
  a46 := Tryd.isAgg74
  z46 := Tryd.sizeOf74
  v46 := Tryd.zeroValue74
  t51 := Tryd.underlying89
  a51 := Tryd.isAgg89
  z51 := Tryd.sizeOf89
  v51 := Tryd.zeroValue89
  t53 := Tryd.underlying41
  a53 := Tryd.isAgg41
  z53 := Tryd.sizeOf41
  v53 := Tryd.zeroValue41
  t171 := Tryd.underlying82
  a171 := Tryd.isAgg82
  z171 := Tryd.sizeOf82
  v171 := Tryd.zeroValue82
  t173 := Tryd.underlying85
  a173 := Tryd.isAgg85
  z173 := Tryd.sizeOf85
  v173 := Tryd.zeroValue85
  t212 := Tryd.underlying88
  a212 := Tryd.isAgg88
  z212 := Tryd.sizeOf88
  v212 := Tryd.zeroValue88
  t213 := Tryd.underlying90
  a213 := Tryd.isAgg90
  z213 := Tryd.sizeOf90
  t232 := Tryd.underlying93
  a232 := Tryd.isAgg93
  z232 := Tryd.sizeOf93
  v232 := Tryd.zeroValue93
  t233 := Tryd.underlying94
  a233 := Tryd.isAgg94
  z233 := Tryd.sizeOf94
  v233 := Tryd.zeroValue94
  g17 := by kernel_rfl
  g18 := by kernel_rfl
  g19 := by kernel_rfl
  i0 := by kernel_rfl
  i2 := by kernel_rfl
  i3 := by kernel_rfl
  i4 := by kernel_rfl
  i5 := by kernel_rfl
  i9 := by kernel_rfl
  i20 := by kernel_rfl
  i37 := by kernel_rfl
  i46 := by kernel_rfl
  i51 := by kernel_rfl
  i53 := by kernel_rfl
  i171 := by kernel_rfl
  i173 := by kernel_rfl
  i212 := by kernel_rfl
  i232 := by kernel_rfl
  i233 := by kernel_rfl
  m17 := by kernel_rfl
  m18 := by kernel_rfl
  m19 := by kernel_rfl }
end Go.Proofs
namespace Go.Proofs.YtddglikicokpeaaDoor
open Go Go.RowKit
set_option linter.unusedVariables false
set_option linter.unusedSectionVars false

/-- the name of the table of powers of ten -/
def nmPow : String := (Rows.fracMakesRow.named.getD 2 default)
def xItoa : List PV → Option PV
  | [.int .i64 n] => if -9223372036854775808 ≤ n ∧ n ≤ 9223372036854775807 then some (.str (Lib.itoa n)) else none
  | _ => none

def xAdd64 : List PV → Option PV
  | [.int .u64 x, .int .u64 y, .int .u64 c] => if 0 ≤ x ∧ 0 ≤ y ∧ 0 ≤ c ∧ c ≤ 1 then some (.tup [.int .u64 ((x + y + c) % 18446744073709551616), .int .u64 ((x + y + c) / 18446744073709551616)]) else none
  | _ => none
def xSub64 : List PV → Option PV
  | [.int .u64 x, .int .u64 y, .int .u64 c] => if 0 ≤ x ∧ x < 18446744073709551616 ∧ 0 ≤ y ∧ y < 18446744073709551616 ∧ 0 ≤ c ∧ c ≤ 1 then some (.tup [.int .u64 ((x - y - c) % 18446744073709551616), .int .u64 (if x - y - c < 0 then 1 else 0)]) else none
  | _ => none
def sub64Entry : Array Value → Sem Value := fun args => do
  let (x, y, b) ← Extern.MathBitsCarry.three "Sub64" args
  pure (Extern.MathBitsCarry.pair ((x + Extern.MathBitsCarry.m64 - y - b) % Extern.MathBitsCarry.m64) (if x < y + b then 1 else 0))
theorem run_sub64 {P : Program} (x y c : Int) (hx : 0 ≤ x) (hx1 : x < 18446744073709551616) (hy : 0 ≤ y) (hy1 : y < 18446744073709551616) (hc0 : 0 ≤ c) (hc : c ≤ 1) (w : World) :
    (sub64Entry #[.int .u64 x, .int .u64 y, .int .u64 c]).run P w = .ok (.tuple #[.int .u64 ((x - y - c) % 18446744073709551616), .int .u64 (if x - y - c < 0 then 1 else 0)]) w := by
  have key : ∀ k : Nat, k ≤ 1 → (sub64Entry #[.int .u64 x, .int .u64 y, .int .u64 (k : Int)]).run P w =
      .ok (Extern.MathBitsCarry.pair ((x.toNat + Extern.MathBitsCarry.m64 - y.toNat - k) % Extern.MathBitsCarry.m64) (if x.toNat < y.toNat + k then 1 else 0)) w := by
    intro k hk
    have : k = 0 ∨ k = 1 := by omega
    rcases this with rfl | rfl <;> rfl
  obtain ⟨k, rfl⟩ := Int.eq_ofNat_of_zero_le hc0
  rw [key k (by omega)]
  obtain ⟨X, rfl⟩ := Int.eq_ofNat_of_zero_le hx
  obtain ⟨Y, rfl⟩ := Int.eq_ofNat_of_zero_le hy
  simp only [Extern.MathBitsCarry.pair, Extern.MathBitsCarry.m64, Int.toNat_natCast]
  congr 4
  · congr 1
    show ((_ : Nat) : Int) = _
    omega
  · congr 2
    show ((_ : Nat) : Int) = _
    split <;> split <;> first | rfl | omega
variable [Bs]
/-- where a table lies that does not change -/
def TabOk : Prop := ∀ w : World, (∀ g ob, Bs.obj g = some ob → w.heap[g]? = some ob) → Lib.TabIs Tryd.prog w nmPow .u64 Lib.pow10Tab

theorem itoa_calls (n : Int) (h0 : -9223372036854775808 ≤ n) (h1 : n ≤ 9223372036854775807) (w : World) (htab : Lib.TabIs Tryd.prog w nmPow .u64 Lib.pow10Tab) :
    Calls Tryd.prog 55 #[.int .i64 n] w fun e w' => e = .returned (.string ⟨(Lib.itoa n).toArray⟩) ∧ ∃ k os, w' = Sort.grow (w.drewN k) os := Any.strconv_Itoa Tryd.laysM171 n h0 h1 w htab

theorem ext55 (hT : TabOk) : ExtOk Tryd.prog 55 xItoa := by
  refine extOk_of ?_
  intro args r h
  unfold xItoa at h
  split at h
  · rename_i n
    split at h
    · rename_i hn
      cases h
      refine ⟨⟨Tryd.f55, Tryd.func55, rfl, by decide⟩, fun m w vs hl hr hf => ?_⟩
      have h0 := hr 0 _ rfl
      have hv : vs = #[.int .i64 n] := by
        obtain ⟨l⟩ := vs
        cases l with
        | nil => simp at hl
        | cons v l =>
          cases l with
          | cons a l => simp at hl
          | nil =>
            have h1 : Rep m 0 (.int .i64 n) v := h0
            cases h1
            rfl
      subst hv
      refine (itoa_calls n hn.1 hn.2 w (hT w fun g ob hg => (hf.2.2 g ob hg).2)).mono ?_
      rintro e w' ⟨rfl, k, os, rfl⟩
      have hb : Below w.heap.size w (Sort.grow (w.drewN k) os) := ⟨rfl, rfl, rfl, by simp [Sort.grow], fun i hi => by simp [Sort.grow, Array.getElem?_append, hi]⟩
      refine ⟨_, rfl, hb, m.cell, [], fun _ _ _ h => h, fun _ _ _ h => .inl h, ⟨fun b o v hc => (frz_grow hf hb.block).1 b o v hc, (frz_grow hf hb.block).2⟩, rfl, fun j x i hj => by simp [impB] at hj, fun j i j' i' hj => by simp at hj, fun K mb _ => ?_⟩
      have : Rep ⟨m.cell, mb⟩ (K + ([] : List Info).length) (.str (ByteArray.mk (Lib.itoa n).toArray).data.toList) (.string ⟨(Lib.itoa n).toArray⟩) := .str
      simpa [impV] using this
    · cases h
  · cases h

/-- a result without slices -/
theorem ret_plain {m : Mem} {w w' : World} {r : PV} {v : Value} (hf : FrzOk m w) (hb : Below w.heap.size w w') (h0 : impB r = []) (h1 : ∀ K, impV K r = r) (hr : ∀ mb K, Rep ⟨m.cell, mb⟩ K r v) : RetOk m w w' r v :=
  ⟨hb, m.cell, [], fun _ _ _ h => h, fun _ _ _ h => .inl h, ⟨fun b o v hc => (frz_grow hf hb.block).1 b o v hc, (frz_grow hf hb.block).2⟩, by rw [h0]; rfl, fun j x i hj => by simp [h0] at hj, fun j i j' i' hj => by simp at hj, fun K mb _ => by rw [h1]; exact hr _ _⟩
theorem args3 {m : Mem} {p q r : PV} {vs : Array Value} (hl : [p, q, r].length = vs.size) (hr : ∀ (i : Nat) (x : PV), [p, q, r][i]? = some x → Rep m 0 x (vs.getD i undef)) : ∃ u v w, vs = #[u, v, w] ∧ Rep m 0 p u ∧ Rep m 0 q v ∧ Rep m 0 r w := by
  have h0 := hr 0 _ rfl
  have h1 := hr 1 _ rfl
  have h2 := hr 2 _ rfl
  obtain ⟨l⟩ := vs
  match l, hl with
  | [u, v, w], _ => exact ⟨u, v, w, rfl, h0, h1, h2⟩
theorem ext57 : ExtOk Tryd.prog 57 xAdd64 := by
  intro args r h m w vs hl hr hf
  unfold xAdd64 at h
  split at h
  · rename_i x y c
    split at h
    · rename_i hc
      cases h
      obtain ⟨u, v, z, rfl, h0, h1, h2⟩ := args3 hl hr
      cases h0; cases h1; cases h2
      refine .inr ⟨⟨_, Tryd.func57, by kernel_rfl⟩, .tuple #[.int .u64 ((x + y + c) % 18446744073709551616), .int .u64 ((x + y + c) / 18446744073709551616)], ?_, _, rfl, ret_plain hf (Below.refl _ _) rfl (fun _ => rfl) (fun mb K => ?_)⟩
      · rw [run_callFunc_extern Tryd.func57 (by kernel_rfl) (by kernel_rfl) (by kernel_rfl) (e := add64Entry) (by kernel_rfl), run_add64 x y c hc.1 hc.2.1 hc.2.2.1 hc.2.2.2]
        rfl
      · refine .tup rfl (fun i p hp => ?_)
        match i, hp with
        | 0, hp => simp at hp; subst hp; exact .int
        | 1, hp => simp at hp; subst hp; exact .int
        | i + 2, hp => simp at hp
    · cases h
  · cases h
theorem ext58 : ExtOk Tryd.prog 58 xSub64 := by
  intro args r h m w vs hl hr hf
  unfold xSub64 at h
  split at h
  · rename_i x y c
    split at h
    · rename_i hc
      cases h
      obtain ⟨u, v, z, rfl, h0, h1, h2⟩ := args3 hl hr
      cases h0; cases h1; cases h2
      refine .inr ⟨⟨_, Tryd.func58, by kernel_rfl⟩, .tuple #[.int .u64 ((x - y - c) % 18446744073709551616), .int .u64 (if x - y - c < 0 then 1 else 0)], ?_, _, rfl, ret_plain hf (Below.refl _ _) rfl (fun _ => rfl) (fun mb K => ?_)⟩
      · rw [run_callFunc_extern Tryd.func58 (by kernel_rfl) (by kernel_rfl) (by kernel_rfl) (e := sub64Entry) (by kernel_rfl), run_sub64 x y c hc.1 hc.2.1 hc.2.2.1 hc.2.2.2.1 hc.2.2.2.2.1 hc.2.2.2.2.2]
        rfl
      · refine .tup rfl (fun i p hp => ?_)
        match i, hp with
        | 0, hp => simp at hp; subst hp; exact .int
        | 1, hp => simp at hp; subst hp; exact .int
        | i + 2, hp => simp at hp
    · cases h
  · cases h
end Go.Proofs.YtddglikicokpeaaDoor
