/-
  THE SHELL OF A PROOF OF 'Rows.CodecShortSaid' ('tracebook/tracebooklaw05.CodecShort'), WRITTEN BY PROGRAM (proof-skeleton.mjs) off the guide's own print for that function. Not trusted: Lean checks it.
  YOURS ARE THE HOLES MARKED 'HOLE' (each bears 'sorry'). ALL ELSE IS THE GUIDE's TEMPLATE (howto/template/XProofs.lean) at this function's number and types: leave it.
-/
import Derived.Test.YtlpphnhamfgmiaaUse
import Derived.WalkKit
import Derived.ProofKit
import Derived.OpenShut
import Derived.ShutString
namespace Go.Proofs.Ytlpphnhamfgmiaa.codecShort
open Go.ChangeShapes Go.WideShapes Go.ChangeAt Go.RowKit
open Go.ChangeMaps (open_string shut_string)
set_option linter.unusedVariables false      -- a walk need not use every 'w<i>' (that an integer argument fits its kind)

theorem own : ownKnob Try.prog.godebug = none := by kernel_rfl

/-! ### STEP 1: THE WALK: the Go text returns true. 'Below w.heap.size w w'': the world has at most new blocks (Derived/RowKit3.lean). Part the cases AHEAD of 'go_enter' where a test parts the walk; take each callee by a contract of your own. -/
set_option maxRecDepth 100000 in
set_option maxHeartbeats 3200000 in
theorem walk (a0 : Int) (a1 : ByteArray) (a2 : Int) (w0 : (Lit.int .i64 a0).wf = true) (w1 : a1.size ≤ maxLen) (w2 : (Lit.int .i64 a2).wf = true) (w : World) :
    Calls Try.prog 7 #[.int .i64 a0, .string a1, .int .i64 a2] w fun e w' => e = .returned (.bool true) ∧ Below w.heap.size w w' := by
  have h0 : -9223372036854775808 ≤ a0 ∧ a0 ≤ 9223372036854775807 := by simpa [Lit.wf, IntKind.min, IntKind.max, IntKind.signed, IntKind.bits] using w0
  by_cases h6 : 300 < a1.size
  · go_enter Try.func7, Try.ntmps7
    go_wp2_with fail
    refine (lives_any _).mono ?_
    rintro e w' ⟨rfl, hb⟩
    go_wp2
    go_ret
    exact ⟨rfl, hb⟩
  · have hs1 : a1.size ≤ 300 := by omega
    have hel := enc_len a0
    have htl := encT_length a1
    have het := enc_len a1.size
    obtain ⟨N, hN⟩ : ∃ N, N = (enc a0).length := ⟨_, rfl⟩
    obtain ⟨M, hM⟩ : ∃ M, M = (encT a1).length := ⟨_, rfl⟩
    have hN1 : 1 ≤ N ∧ N ≤ 10 := by omega
    have hM1 : a1.size < M ∧ M ≤ 310 := by omega
    have HN := Lib.hid hN
    have HM := Lib.hid hM
    have HTL := Lib.hid htl
    clear hN hM hel htl het
    have hnn : 0 < N := by omega
    go_enter Try.func7, Try.ntmps7
    go_wp2_with fail
    refine (putint_made none 0 [] a0 _ N (by rw [HN.out]; simp) h0.1 h0.2 Reads.none_ (fun _ => rfl) (by simp) (by simp) (by decide)).mono ?_
    rintro e W ⟨g, c, rfl, hmade, hbel⟩
    rw [List.nil_append] at hmade
    go_wp2_with fail
    refine (puttext_row none 0 [] a1 _ M (by rw [HM.out, HTL.out]; simp) (by omega) Reads.none_ (fun _ => rfl) (by simp) (by simp) (by decide)).mono ?_
    rintro e W2 ⟨g2, c2, rfl, hmade2, hbel2⟩
    rw [List.nil_append] at hmade2
    have hmade1 := hmade.keep hbel2
    have hB : Below w.heap.size w W2 := hbel.trans (hbel2.mono hbel.size)
    clear hmade hbel hbel2
    have hc1 := hmade1.le
    have hc2 := hmade2.le
    have hd1 : ∀ k, k < N → Calls Try.prog 16 #[.slice (some ⟨g, 0, none⟩) k c] W2 fun e w' => e = .returned (.tuple #[.int .i64 0, .int .i64 0, .int .i64 8]) ∧ W2 = w' := fun k hk => by
      have hl := HN.out
      have := int_row (some ⟨g, 0, none⟩) k c ((enc a0).take k) W2 (by simp; omega) (by simp; omega) ((enc_in h0.1 h0.2).take k) (hmade1.prefix k)
      rw [dec_short_of (by omega)] at this
      exact this
    have hd2 : ∀ k, k < M → Calls Try.prog 18 #[.slice (some ⟨g2, 0, none⟩) k c2, .int .i64 300] W2 fun e w' => e = .returned (.tuple #[.string ⟨#[]⟩, .int .i64 0, .int .i64 8]) ∧ W2 = w' := fun k hk => by
      have hl := HM.out
      have hlt : ((encT a1).take k).length = k := by rw [List.length_take]; omega
      have := text_any (some ⟨g2, 0, none⟩) k c2 300 ((encT a1).take k) W2 hlt.symm (by omega) (by omega) ((encT_in (by omega)).take k) (hmade2.prefix k)
      rw [decText_short hs1 (by omega)] at this
      exact this
    have Hd1 := Lib.hid hd1
    have Hd2 := Lib.hid hd2
    clear hd1 hd2
    by_cases ha : 0 ≤ a2
    · obtain ⟨k, rfl⟩ := Int.eq_ofNat_of_zero_le ha
      by_cases hk1 : k < N
      · by_cases hk2 : k < M
        · go_wp2_with fail
          refine (Hd1.out k hk1).mono ?_
          rintro e W3 ⟨rfl, rfl⟩
          go_wp2_with fail
          refine (Hd2.out k hk2).mono ?_
          rintro e W3 ⟨rfl, rfl⟩
          go_wp2_with fail
          refine (lives_any _).mono ?_
          rintro e W3 ⟨rfl, hb⟩
          go_wp2
          go_ret
          exact ⟨rfl, hB.trans (hb.mono hB.size)⟩
        · go_wp2_with fail
          refine (Hd1.out k hk1).mono ?_
          rintro e W3 ⟨rfl, rfl⟩
          go_wp2_with fail
          refine (lives_any _).mono ?_
          rintro e W3 ⟨rfl, hb⟩
          go_wp2
          go_ret
          exact ⟨rfl, hB.trans (hb.mono hB.size)⟩
      · by_cases hk2 : k < M
        · go_wp2_with fail
          refine (Hd2.out k hk2).mono ?_
          rintro e W3 ⟨rfl, rfl⟩
          go_wp2_with fail
          refine (lives_any _).mono ?_
          rintro e W3 ⟨rfl, hb⟩
          go_wp2
          go_ret
          exact ⟨rfl, hB.trans (hb.mono hB.size)⟩
        · go_wp2_with fail
          refine (lives_any _).mono ?_
          rintro e W3 ⟨rfl, hb⟩
          go_wp2
          go_ret
          exact ⟨rfl, hB.trans (hb.mono hB.size)⟩
    · go_wp2_with fail
      refine (lives_any _).mono ?_
      rintro e W3 ⟨rfl, hb⟩
      go_wp2
      go_ret
      exact ⟨rfl, hB.trans (hb.mono hB.size)⟩

/-! ### THE ROW's STEP: WRITTEN OUT: LEAVE IT -/
set_option maxRecDepth 100000 in
theorem lifted (os : Os) (started : os.Started) (H : Type) (enc : TypeId × Value → H) :
    ReturnsInHanded {} Try.checked os 7 .any (Rows.codecShortSpec.pre6 enc Try.prog Try.f7 Rows.codecShortRow.domain false) (Rows.codecShortSpec.post enc Try.prog Try.f7 false true false false) := by
  refine returnsInHanded_of_change (C := Try.checked) own started (by kernel_rfl) Try.func7
    (ChangeSpec.witness6 (enc := enc) (C := Try.checked) false ⟨#[], #[.int .i64 0, .string ByteArray.empty, .int .i64 0], []⟩ 8 (by kernel_rfl) (by kernel_rfl) (by kernel_rfl) (by kernel_rfl)) ?_
  intro W base args ds gs before hval0 hW hcnd _
  have hval : ∀ (j : Nat) t v, Try.f7.params[j]? = some t → args[j]? = some v → Value.okWide Try.prog W .any base t v := hval0
  have hW' := hW
  obtain ⟨p, q, hA0, hV, rfl, hfz, hnd⟩ := hW
  have hA : DataW.TrodAll enc Try.prog W 0 (fun _ => true) true Try.f7.params.toList args.toList ds p := hA0
  rw [Try.params7] at hA hval
  obtain ⟨v0, vs0, d0, ds0, p0, q0, hargs, rfl, rfl, h0, r0⟩ := trodAll_cons hA
  obtain ⟨v1, vs1, d1, ds1, p1, q1, rfl, rfl, rfl, h1, r1⟩ := trodAll_cons r0
  obtain ⟨v2, vs2, d2, ds2, p2, q2, rfl, rfl, rfl, h2, r2⟩ := trodAll_cons r1
  obtain ⟨rfl, rfl, rfl⟩ := trodAll_nil r2
  obtain rfl : args = #[v0, v1, v2] := by cases args; simp_all
  obtain ⟨rfl, rfl⟩ := trodVars_none hV
  obtain ⟨a0, rfl, rfl, rfl, w0⟩ := open_int Try.underlying3 (hval 0 3 v0 rfl rfl) h0
  obtain ⟨a1, rfl, rfl, rfl, w1⟩ := open_string Try.underlying9 (hval 1 9 v1 rfl rfl) h1
  obtain ⟨a2, rfl, rfl, rfl, w2⟩ := open_int Try.underlying3 (hval 2 3 v2 rfl rfl) h2
  clear hA0 hval0
  refine (walk a0 a1 a2 w0 w1 w2 W).mono fun e W' ⟨he, bel⟩ => ?_
  subst he
  exact ⟨_, rfl, _, _, _, [], _, [], hW', trodAll_mk1 (shut_bool Try.underlying4 _), (trodAll_cons_mk (shut_int Try.underlying3 w0) (trodAll_cons_mk (shut_string Try.underlying9 w1) (trodAll_cons_mk (shut_int Try.underlying3 w2) trodAll_mk0))), rfl, bel.frame _, fun h => by cases h⟩

theorem over : Rows.codecShortRow.holds Try.pinned (OpenSpec.ofChange Rows.codecShortSpec) :=
  OpenClaim.holds_of_wide 7 Try.f7 rfl rfl rfl rfl rfl rfl rfl ⟨rfl, rfl, rfl, rfl, rfl⟩ rfl rfl rfl rfl rfl (by kernel_rfl) Try.func7 (by kernel_rfl)
    (of_decide_eq_true (by kernel_rfl)) (by unfold Func.isWrapper; first | (rw [if_pos (by decide +kernel)]; kernel_rfl) | (rw [if_neg (by decide +kernel)]; exact ⟨rfl, rfl⟩))
    (fun os started H enc _ => lifted os started H enc)

/-- ████ THE STATEMENT ████ -/
theorem proved : Rows.CodecShortSaid :=
  over
#print axioms proved
end Go.Proofs.Ytlpphnhamfgmiaa.codecShort
