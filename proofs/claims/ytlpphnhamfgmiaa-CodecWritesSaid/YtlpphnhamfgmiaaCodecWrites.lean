/-
  THE SHELL OF A PROOF OF 'Rows.CodecWritesSaid' ('tracebook/tracebooklaw05.CodecWrites'), WRITTEN BY PROGRAM (proof-skeleton.mjs, third state) off the guide's own print for that function. Not trusted: Lean checks it.
  YOURS IS THE HOLE MARKED 'HOLE' (it bears 'sorry'). ALL ELSE IS THE GUIDE's OWN WAY (howto/template/XProofs.lean; Derived/Test/ChunkProofs.lean for 'Below') at this function's number and types: leave it.
-/
import Derived.Test.YtlpphnhamfgmiaaOwn
import Derived.Deep.RegionHeld
import Derived.WalkKit
import Derived.ProofKit
import Derived.OpenShut
import Derived.ShutString
import Derived.ChangeOld
import Derived.Below
namespace Go.Proofs.Ytlpphnhamfgmiaa.codecWrites
open Go.ChangeShapes Go.WideShapes Go.ChangeAt Go.RowKit
open Go.ChangeMaps (open_string shut_string)
set_option linter.unusedVariables false

theorem own : ownKnob Try.prog.godebug = none := by kernel_rfl
theorem laidOut : laidOutB Try.prog = true := by kernel_rfl

/-! ### STEP 1: THE WALK: the Go text returns true, AND WRITES NOTHING THAT WAS THERE: 'Below w.heap.size w w'' (Derived/Below.lean: '.refl', '.alloc', '.drew', '.setCell' at a new block, '.trans'). Open each 'IsRow' by 'rcases' AHEAD of 'go_enter'; part every test ahead of the walk. -/
set_option maxRecDepth 100000 in
set_option maxHeartbeats 3200000 in
theorem walk (a0 : Option Addr) (len0 cap0 : Nat) (z0 : List Int) (a1 : Int) (a2 : ByteArray) (w : World) (w0 : IsRow .u8 w a0 len0 cap0 z0) (w1 : (Lit.int .i64 a1).wf = true) (w2 : a2.size ≤ maxLen) :
    Calls Try.prog 3 #[.slice a0 len0 cap0, .int .i64 a1, .string a2] w fun e w' => e = .returned (.bool true) ∧ Below w.heap.size w w' := by
  obtain ⟨zs, rfl, ha⟩ := arg_of w0
  have hm := ha.max
  have hle := ha.le
  by_cases h6 : 300 < zs.length
  · go_enter Try.func3, Try.ntmps3
    go_wp2_with fail
    refine (lives_any _).mono ?_
    rintro e w' ⟨rfl, hb⟩
    go_wp2
    go_ret
    exact ⟨rfl, hb⟩
  · by_cases h7 : 300 < a2.size
    · go_enter Try.func3, Try.ntmps3
      go_wp2_with fail
      refine (lives_any _).mono ?_
      rintro e w' ⟨rfl, hb⟩
      go_wp2
      go_ret
      exact ⟨rfl, hb⟩
    · have h0 : -9223372036854775808 ≤ a1 ∧ a1 ≤ 9223372036854775807 := by simpa [Lit.wf, IntKind.min, IntKind.max, IntKind.signed, IntKind.bits] using w1
      have hc0 := conv_row ha.row zs.length cap0 rfl
      obtain ⟨O, hO⟩ : ∃ O, O = strOfNums zs := ⟨_, rfl⟩
      rw [← hO] at hc0
      obtain ⟨xs, hxs⟩ : ∃ xs, xs = zs ++ enc a1 := ⟨_, rfl⟩
      obtain ⟨ys, hys⟩ : ∃ ys, ys = zs ++ enc a2.size ++ nums a2 := ⟨_, rfl⟩
      obtain ⟨X, hX⟩ : ∃ X, X = strOfNums xs := ⟨_, rfl⟩
      obtain ⟨Y, hY⟩ : ∃ Y, Y = strOfNums ys := ⟨_, rfl⟩
      have HO := Lib.hid hO
      have HX := Lib.hid hX
      have HY := Lib.hid hY
      have Hxs := Lib.hid hxs
      have Hys := Lib.hid hys
      clear hO hX hY hxs hys
      go_enter Try.func3, Try.ntmps3
      go_wp2_with fail
      refine (putint_made a0 cap0 zs a1 _ _ rfl h0.1 h0.2 ha.reads ha.nil (by omega) hle hm).mono ?_
      rintro e W1 ⟨gx, cx, rfl, hx, hb1⟩
      replace ha := ha.keep hb1
      rw [← Hxs.out] at hx
      generalize zs.length + (enc a1).length = Nx at hx ⊢
      go_wp2_with fail
      refine (puttext_row a0 cap0 zs a2 _ _ rfl (by omega) ha.reads ha.nil (by omega) hle hm).mono ?_
      rintro e W2 ⟨gy, cy, rfl, hy, hb2⟩
      rw [← Hys.out] at hy
      generalize zs.length + (enc (a2.size : Int)).length + a2.size = Ny at hy ⊢
      have hK : WK w a0 cap0 zs gx Nx cx xs gy Ny cy ys W2 := ⟨ha.keep hb2, ⟨hx.len, hx.le, hx.max, Nat.zero_le _, Nat.lt_of_lt_of_le hx.lt hb2.size, (hx.keep hb2).cell⟩, ⟨hy.len, hy.le, hy.max, Nat.zero_le _, hy.lt, hy.cell⟩, hb1.trans (hb2.mono hb1.size)⟩
      have hS := (hK.keep (Below.refl _ _).drew).s HO.out HX.out HY.out
      clear hx hy hb1 hb2 ha hc0 hK W1
      unfold WS at hS
      go_wp2_with fail
      go_region_held (fun W => (convert 22 9 (.slice (some ⟨gx, 0, none⟩) Nx cx)).run Try.prog W = .ok (.string X) W ∧ (convert 22 9 (.slice (some ⟨gy, 0, none⟩) Ny cy)).run Try.prog W = .ok (.string Y) W ∧ (convert 22 9 (.slice a0 zs.length cap0)).run Try.prog W = .ok (.string O) W ∧ (convert 9 22 (.string O)).run Try.prog W = .ok (.slice (some ⟨W.heap.size, 0, none⟩) zs.length (convCap W O)) (convWorld W O) ∧ WK w a0 cap0 zs gx Nx cx xs gy Ny cy ys W)
        (first | with_reducible exact hS3 | with_reducible exact hS2 | with_reducible exact hS | with_reducible exact WS.convU hS2 HO.out HX.out HY.out | with_reducible exact WS.convU hS HO.out HX.out HY.out)
        (first
          | (go_at_call 14; refine (WS.putintU hS HO.out HX.out HY.out a1 h0.1 h0.2 Hxs.out (by omega)).mono ?_; rintro e W ⟨g, N, c, rfl, hcv, hS2⟩)
          | (go_at_call 15; refine (WS.puttextU hS2 HO.out HX.out HY.out a2 (by omega) Hys.out (by omega)).mono ?_; rintro e W ⟨g, N, c, rfl, hcv, hS2⟩)
          | (go_at_call 11; refine (lives_any _).mono ?_; rintro e W ⟨rfl, hb9⟩; have hS3 := WS.keepU hS2 hb9 HO.out HX.out HY.out))
      have hbel := hS3.2.2.2.2.bel
      go_wp2
      go_ret
      exact ⟨rfl, hbel⟩

/-! ### THE ROW's STEP: WRITTEN OUT: LEAVE IT -/
set_option maxRecDepth 100000 in
theorem lifted (os : Os) (started : os.Started) (H : Type) (enc : TypeId × Value → H) :
    ReturnsInHanded {} Try.checked os 3 .any (Rows.codecWritesSpec.pre6 enc Try.prog Try.f3 Rows.codecWritesRow.domain false) (Rows.codecWritesSpec.post enc Try.prog Try.f3 false true false false) := by
  refine returnsInHanded_of_change (C := Try.checked) own started (by kernel_rfl) Try.func3
    (ChangeSpec.witness6 (enc := enc) (C := Try.checked) false ⟨#[], #[.slice none 0 0, .int .i64 0, .string ByteArray.empty], []⟩ 8 (by kernel_rfl) (by kernel_rfl) (by kernel_rfl) (by kernel_rfl)) ?_
  intro W base args ds gs before hval0 hW hcnd _
  have hval : ∀ (j : Nat) t v, Try.f3.params[j]? = some t → args[j]? = some v → Value.okWide Try.prog W .any base t v := hval0
  have hW' := hW
  obtain ⟨p, q, hA0, hV, rfl, hfz, hnd⟩ := hW
  have hA : DataW.TrodAll enc Try.prog W 0 (fun _ => true) true Try.f3.params.toList args.toList ds p := hA0
  rw [Try.params3] at hA hval
  obtain ⟨v0, vs0, d0, ds0, p0, q0, hargs, rfl, rfl, h0, r0⟩ := trodAll_cons hA
  obtain ⟨v1, vs1, d1, ds1, p1, q1, rfl, rfl, rfl, h1, r1⟩ := trodAll_cons r0
  obtain ⟨v2, vs2, d2, ds2, p2, q2, rfl, rfl, rfl, h2, r2⟩ := trodAll_cons r1
  obtain ⟨rfl, rfl, rfl⟩ := trodAll_nil r2
  obtain rfl : args = #[v0, v1, v2] := by cases args; simp_all
  obtain ⟨rfl, rfl⟩ := trodVars_none hV
  obtain ⟨a0, len0, cap0, rfl⟩ := okWide_slice Try.underlying22 (hval 0 22 v0 rfl rfl)
  have k0 := h0
  have lt0 : ∀ x ∈ p0, x.block < W.heap.size := by obtain ⟨m, hm⟩ := k0; exact DataW.trod_lt m _ _ _ hm
  obtain ⟨z0, w0⟩ : ∃ zs, IsRow .u8 W a0 len0 cap0 zs := by
    obtain ⟨fuel, hf⟩ := h0
    rcases open_ints Try.underlying22 Try.underlying5 (by kernel_rfl) hf with ⟨hcs, _⟩ | ⟨x, l, c, zs, hcs, _, hl, hm, hz, _, hcell, hwz⟩
    · simp [Value.cells] at hcs
      obtain ⟨rfl, rfl, rfl⟩ := hcs
      exact ⟨[], .inl ⟨rfl, rfl, rfl, rfl⟩⟩
    · simp [Value.cells] at hcs
      obtain ⟨rfl, rfl, rfl⟩ := hcs
      exact ⟨zs, .inr ⟨_, rfl, hl, hm, by simpa using hz, hcell, hwz⟩⟩
  obtain ⟨a1, rfl, rfl, rfl, w1⟩ := open_int Try.underlying3 (hval 1 3 v1 rfl rfl) h1
  obtain ⟨a2, rfl, rfl, rfl, w2⟩ := open_string Try.underlying9 (hval 2 9 v2 rfl rfl) h2
  clear hA0 hval0
  refine (walk a0 len0 cap0 z0 a1 a2 W w0 w1 w2).mono fun e W' ⟨he, bel⟩ => ?_
  subst he
  exact ⟨_, rfl, _, _, _, [], _, [], hW', trodAll_mk1 (shut_bool Try.underlying4 _), (trodAll_cons_mk (Below.trod laidOut (by kernel_rfl) (of_decide_eq_true (by kernel_rfl)) k0 bel lt0) (trodAll_cons_mk (shut_int Try.underlying3 w1) (trodAll_cons_mk (shut_string Try.underlying9 w2) trodAll_mk0))), rfl, bel.frame _, fun h => by cases h⟩

theorem over : Rows.codecWritesRow.holds Try.pinned (OpenSpec.ofChange Rows.codecWritesSpec) :=
  OpenClaim.holds_of_wide 3 Try.f3 rfl rfl rfl rfl rfl rfl rfl ⟨rfl, rfl, rfl, rfl, rfl⟩ rfl rfl rfl rfl rfl (by kernel_rfl) Try.func3 (by kernel_rfl)
    (of_decide_eq_true (by kernel_rfl)) (by unfold Func.isWrapper; first | (rw [if_pos (by decide +kernel)]; kernel_rfl) | (rw [if_neg (by decide +kernel)]; exact ⟨rfl, rfl⟩))
    (fun os started H enc _ => lifted os started H enc)

/-- ████ THE STATEMENT ████ -/
theorem proved : Rows.CodecWritesSaid := over
#print axioms proved
end Go.Proofs.Ytlpphnhamfgmiaa.codecWrites
