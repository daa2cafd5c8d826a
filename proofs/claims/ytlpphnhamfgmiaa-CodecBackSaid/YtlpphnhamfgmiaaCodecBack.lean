/-
  THE SHELL OF A PROOF OF 'Rows.CodecBackSaid' ('tracebook/tracebooklaw05.CodecBack'), WRITTEN BY PROGRAM (proof-skeleton.mjs, third state) off the guide's own print for that function. Not trusted: Lean checks it.
  YOURS IS THE HOLE MARKED 'HOLE' (it bears 'sorry'). ALL ELSE IS THE GUIDE's OWN WAY (howto/template/XProofs.lean; Derived/Test/ChunkProofs.lean for 'Below') at this function's number and types: leave it.
-/
import Derived.Test.YtlpphnhamfgmiaaUse
import Derived.WalkKit
import Derived.ProofKit
import Derived.OpenShut
import Derived.ShutString
import Derived.ChangeOld
import Derived.Below
namespace Go.Proofs.Ytlpphnhamfgmiaa.codecBack
open Go.ChangeShapes Go.WideShapes Go.ChangeAt Go.RowKit
open Go.ChangeMaps (open_string shut_string)
set_option linter.unusedVariables false

theorem own : ownKnob Try.prog.godebug = none := by kernel_rfl
theorem laidOut : laidOutB Try.prog = true := by kernel_rfl

/-! ### STEP 1: THE WALK: the Go text returns true, AND WRITES NOTHING THAT WAS THERE: 'Below w.heap.size w w'' (Derived/Below.lean: '.refl', '.alloc', '.drew', '.setCell' at a new block, '.trans'). Open each 'IsRow' by 'rcases' AHEAD of 'go_enter'; part every test ahead of the walk. -/
set_option maxRecDepth 100000 in
set_option maxHeartbeats 3200000 in
theorem walk (a0 : Int) (a1 : ByteArray) (a2 : Option Addr) (len2 cap2 : Nat) (z2 : List Int) (a3 : Int) (w : World) (w0 : (Lit.int .i64 a0).wf = true) (w1 : a1.size ≤ maxLen) (w2 : IsRow .u8 w a2 len2 cap2 z2) (w3 : (Lit.int .i64 a3).wf = true) :
    Calls Try.prog 5 #[.int .i64 a0, .string a1, .slice a2 len2 cap2, .int .i64 a3] w fun e w' => e = .returned (.bool true) ∧ Below w.heap.size w w' := by
  have h0 : -9223372036854775808 ≤ a0 ∧ a0 ≤ 9223372036854775807 := by simpa [Lit.wf, IntKind.min, IntKind.max, IntKind.signed, IntKind.bits] using w0
  obtain ⟨zs, rfl, ha⟩ := arg_of w2
  have hm := ha.max
  have hle := ha.le
  by_cases h6 : 300 < a1.size
  · go_enter Try.func5, Try.ntmps5
    go_wp2_with fail
    refine (lives_any _).mono ?_
    rintro e w' ⟨rfl, hb⟩
    go_wp2
    go_ret
    exact ⟨rfl, hb⟩
  · by_cases h7 : 300 < zs.length
    · go_enter Try.func5, Try.ntmps5
      go_wp2_with fail
      refine (lives_any _).mono ?_
      rintro e w' ⟨rfl, hb⟩
      go_wp2
      go_ret
      exact ⟨rfl, hb⟩
    · have hs1 : a1.size ≤ 300 := by omega
      obtain ⟨N, hN⟩ : ∃ N, N = (enc a0).length := ⟨_, rfl⟩
      have hel := enc_len a0
      have hN1 : 1 ≤ N ∧ N ≤ 10 := by omega
      have HN := Lib.hid hN
      clear hN hel
      go_enter Try.func5, Try.ntmps5
      go_wp2_with fail
      refine (putint_made none 0 [] a0 _ N (by rw [HN.out]; simp) h0.1 h0.2 Reads.none_ (fun _ => rfl) (by simp) (by simp) (by decide)).mono ?_
      rintro e W ⟨g, c, rfl, hmade, hbel⟩
      rw [List.nil_append] at hmade
      obtain ⟨i0, hi0, hz0, hz1, hz2⟩ := info_parts u8_info
      have hown0 := own_empty W w.heap.size hbel.size
      have hra := hmade.reads.alloc (Nat.le_refl _) (.cells #[] 5)
      have hB1 : Below w.heap.size w (W.alloc (.cells #[] 5)) := hbel.alloc hbel.size _
      have hw2 := (ha.keep hB1).reads
      have hlt2 : W.heap.size ≤ (W.alloc (.cells #[] 5)).heap.size := by simp
      go_wp2_with (first
        | (at_builtin
           refine wpList_append_any _ rfl (.tmp 29) (.tmp 30) _ rfl w.heap.size 5 i0 _ 1 1 Try.underlying22 hi0 hz0 hz1 hz2 rfl (by omega) (.slice (some ⟨W.heap.size, 0, none⟩) 0 0) 0 [] rfl hown0 W.heap.size (some ⟨g, 0, none⟩) N c _ rfl hra (one_u8 _) (by simp only [maxLen]; omega) (by omega) (by simp; exact Nat.le_succ_of_le hbel.size) ?_
           intro v1 V1 hown1 hg1 hat1
           have hb1 : Below w.heap.size w V1 := (hbel.alloc hbel.size (.cells #[] 5)).grown hg1 (by simp; exact Nat.le_succ_of_le hbel.size) (fun k hk => by simp [Value.ownBlock] at hk; have := hbel.size; omega)
           have hlo : ∀ k, v1.ownBlock = some k → w.heap.size ≤ k := fun k hk => (hown1.lt k hk).1
           rw [Nat.zero_add, List.nil_append] at hown1)
        | (at_builtin
           refine wpList_append_any _ rfl (.tmp 31) (.tmp 32) _ rfl w.heap.size 5 i0 _ 1 1 Try.underlying22 hi0 hz0 hz1 hz2 rfl (by omega) v1 N _ rfl hown1 V1.heap.size a2 zs.length cap2 _ rfl (ha.keep hb1).reads (one_u8 _) (by simp only [maxLen]; omega) (by omega) hb1.size ?_
           intro v2 V2 hown2 hg2 hat2
           have hb2 : Below w.heap.size w V2 := hb1.grown hg2 hb1.size hlo
           rw [← List.map_append] at hown2
           obtain ⟨g2, c2, rfl, hm2⟩ := made_of_own hown2 (by omega)))
      have hc2 := hm2.le
      have hc3 := hm2.max
      unfold maxLen at hc3
      have hrd := int_row (some ⟨g2, 0, none⟩) (N + zs.length) c2 (enc a0 ++ zs) V2 hm2.len (by rw [← hm2.len]; omega) ((enc_in h0.1 h0.2).append ha.inb) hm2.brow
      rw [dec_back h0.1 h0.2, ← HN.out] at hrd
      simp only [trip] at hrd
      refine hrd.mono ?_
      rintro e V3 ⟨rfl, rfl⟩
      clear hrd hown2 hown1 hat1 hat2 hg1 hg2 hlo hown0 hra hB1 hw2 hlt2
      have hn1 : ((N : Int) == (N : Int)) = true := by simp
      obtain ⟨M, hM⟩ : ∃ M, M = (encT a1).length := ⟨_, rfl⟩
      have htl := encT_length a1
      have het := enc_len a1.size
      have hM1 : a1.size < M ∧ M ≤ 310 := by omega
      have HM := Lib.hid hM
      have HTL := Lib.hid htl
      clear hM htl het
      go_wp2_with fail
      refine (puttext_row none 0 [] a1 _ M (by rw [HM.out, HTL.out]; simp) (by omega) Reads.none_ (fun _ => rfl) (by simp) (by simp) (by decide)).mono ?_
      rintro e U ⟨g3, c3, rfl, hmade3, hbel3⟩
      rw [List.nil_append] at hmade3
      change Made _ _ _ _ _ (encT a1) at hmade3
      have hbU : Below w.heap.size w U := hb2.trans (hbel3.mono hb2.size)
      have hown0' := own_empty U w.heap.size hbU.size
      have hra' := hmade3.reads.alloc (Nat.le_refl _) (.cells #[] 5)
      go_wp2_with (first
        | (at_builtin
           refine wpList_append_any _ rfl (.tmp 62) (.tmp 63) _ rfl w.heap.size 5 i0 _ 1 1 Try.underlying22 hi0 hz0 hz1 hz2 rfl (by omega) (.slice (some ⟨U.heap.size, 0, none⟩) 0 0) 0 [] rfl hown0' U.heap.size (some ⟨g3, 0, none⟩) M c3 _ rfl hra' (one_u8 _) (by simp only [maxLen]; omega) (by omega) (by simp; exact Nat.le_succ_of_le hbU.size) ?_
           intro v1' V1' hown1' hg1' hat1'
           have hb1' : Below w.heap.size w V1' := (hbU.alloc hbU.size (.cells #[] 5)).grown hg1' (by simp; exact Nat.le_succ_of_le hbU.size) (fun k hk => by simp [Value.ownBlock] at hk; have := hbU.size; omega)
           have hlo' : ∀ k, v1'.ownBlock = some k → w.heap.size ≤ k := fun k hk => (hown1'.lt k hk).1
           rw [Nat.zero_add, List.nil_append] at hown1')
        | (at_builtin
           refine wpList_append_any _ rfl (.tmp 64) (.tmp 65) _ rfl w.heap.size 5 i0 _ 1 1 Try.underlying22 hi0 hz0 hz1 hz2 rfl (by omega) v1' M _ rfl hown1' V1'.heap.size a2 zs.length cap2 _ rfl (ha.keep hb1').reads (one_u8 _) (by simp only [maxLen]; omega) (by omega) hb1'.size ?_
           intro v2' V2' hown2' hg2' hat2'
           have hb2' : Below w.heap.size w V2' := hb1'.grown hg2' hb1'.size hlo'
           rw [← List.map_append] at hown2'
           obtain ⟨g2', c2', rfl, hm2'⟩ := made_of_own hown2' (by omega)))
      have hc2' := hm2'.le
      have hc3' := hm2'.max
      unfold maxLen at hc3'
      have hrd := text_any (some ⟨g2', 0, none⟩) (M + zs.length) c2' a3 (encT a1 ++ zs) V2' hm2'.len (by rw [← hm2'.len]; omega) (by rw [← hm2'.len]; omega) ((encT_in (by omega)).append ha.inb) hm2'.brow
      rw [decText_back (by omega)] at hrd
      by_cases hmost : a3 < (a1.size : Int)
      · rw [if_pos hmost] at hrd
        simp only [tripT, strOfNums_nil] at hrd
        have hee : ByteArray.empty = ⟨#[]⟩ := rfl
        rw [hee] at hrd
        clear hee
        refine hrd.mono ?_
        rintro e V3 ⟨rfl, rfl⟩
        clear hrd hown2' hown1' hat1' hat2' hg1' hg2' hlo' hown0' hra'
        go_wp2_with fail
        refine (lives_any _).mono ?_
        rintro e V4 ⟨rfl, hb⟩
        go_wp2
        go_ret
        exact ⟨rfl, hb2'.trans (hb.mono hb2'.size)⟩
      · rw [if_neg hmost, ← HM.out] at hrd
        simp only [tripT, strOfNums_nums] at hrd
        refine hrd.mono ?_
        rintro e V3 ⟨rfl, rfl⟩
        clear hrd hown2' hown1' hat1' hat2' hg1' hg2' hlo' hown0' hra'
        go_wp2_with fail
        refine (lives_any _).mono ?_
        rintro e V4 ⟨rfl, hb⟩
        go_wp2
        go_ret
        exact ⟨rfl, hb2'.trans (hb.mono hb2'.size)⟩

/-! ### THE ROW's STEP: WRITTEN OUT: LEAVE IT -/
set_option maxRecDepth 100000 in
theorem lifted (os : Os) (started : os.Started) (H : Type) (enc : TypeId × Value → H) :
    ReturnsInHanded {} Try.checked os 5 .any (Rows.codecBackSpec.pre6 enc Try.prog Try.f5 Rows.codecBackRow.domain false) (Rows.codecBackSpec.post enc Try.prog Try.f5 false true false false) := by
  refine returnsInHanded_of_change (C := Try.checked) own started (by kernel_rfl) Try.func5
    (ChangeSpec.witness6 (enc := enc) (C := Try.checked) false ⟨#[], #[.int .i64 0, .string ByteArray.empty, .slice none 0 0, .int .i64 0], []⟩ 8 (by kernel_rfl) (by kernel_rfl) (by kernel_rfl) (by kernel_rfl)) ?_
  intro W base args ds gs before hval0 hW hcnd _
  have hval : ∀ (j : Nat) t v, Try.f5.params[j]? = some t → args[j]? = some v → Value.okWide Try.prog W .any base t v := hval0
  have hW' := hW
  obtain ⟨p, q, hA0, hV, rfl, hfz, hnd⟩ := hW
  have hA : DataW.TrodAll enc Try.prog W 0 (fun _ => true) true Try.f5.params.toList args.toList ds p := hA0
  rw [Try.params5] at hA hval
  obtain ⟨v0, vs0, d0, ds0, p0, q0, hargs, rfl, rfl, h0, r0⟩ := trodAll_cons hA
  obtain ⟨v1, vs1, d1, ds1, p1, q1, rfl, rfl, rfl, h1, r1⟩ := trodAll_cons r0
  obtain ⟨v2, vs2, d2, ds2, p2, q2, rfl, rfl, rfl, h2, r2⟩ := trodAll_cons r1
  obtain ⟨v3, vs3, d3, ds3, p3, q3, rfl, rfl, rfl, h3, r3⟩ := trodAll_cons r2
  obtain ⟨rfl, rfl, rfl⟩ := trodAll_nil r3
  obtain rfl : args = #[v0, v1, v2, v3] := by cases args; simp_all
  obtain ⟨rfl, rfl⟩ := trodVars_none hV
  obtain ⟨a0, rfl, rfl, rfl, w0⟩ := open_int Try.underlying3 (hval 0 3 v0 rfl rfl) h0
  obtain ⟨a1, rfl, rfl, rfl, w1⟩ := open_string Try.underlying9 (hval 1 9 v1 rfl rfl) h1
  obtain ⟨a2, len2, cap2, rfl⟩ := okWide_slice Try.underlying22 (hval 2 22 v2 rfl rfl)
  have k2 := h2
  have lt2 : ∀ x ∈ p2, x.block < W.heap.size := by obtain ⟨m, hm⟩ := k2; exact DataW.trod_lt m _ _ _ hm
  obtain ⟨z2, w2⟩ : ∃ zs, IsRow .u8 W a2 len2 cap2 zs := by
    obtain ⟨fuel, hf⟩ := h2
    rcases open_ints Try.underlying22 Try.underlying5 (by kernel_rfl) hf with ⟨hcs, _⟩ | ⟨x, l, c, zs, hcs, _, hl, hm, hz, _, hcell, hwz⟩
    · simp [Value.cells] at hcs
      obtain ⟨rfl, rfl, rfl⟩ := hcs
      exact ⟨[], .inl ⟨rfl, rfl, rfl, rfl⟩⟩
    · simp [Value.cells] at hcs
      obtain ⟨rfl, rfl, rfl⟩ := hcs
      exact ⟨zs, .inr ⟨_, rfl, hl, hm, by simpa using hz, hcell, hwz⟩⟩
  obtain ⟨a3, rfl, rfl, rfl, w3⟩ := open_int Try.underlying3 (hval 3 3 v3 rfl rfl) h3
  clear hA0 hval0
  refine (walk a0 a1 a2 len2 cap2 z2 a3 W w0 w1 w2 w3).mono fun e W' ⟨he, bel⟩ => ?_
  subst he
  exact ⟨_, rfl, _, _, _, [], _, [], hW', trodAll_mk1 (shut_bool Try.underlying4 _), (trodAll_cons_mk (shut_int Try.underlying3 w0) (trodAll_cons_mk (shut_string Try.underlying9 w1) (trodAll_cons_mk (Below.trod laidOut (by kernel_rfl) (of_decide_eq_true (by kernel_rfl)) k2 bel lt2) (trodAll_cons_mk (shut_int Try.underlying3 w3) trodAll_mk0)))), rfl, bel.frame _, fun h => by cases h⟩

theorem over : Rows.codecBackRow.holds Try.pinned (OpenSpec.ofChange Rows.codecBackSpec) :=
  OpenClaim.holds_of_wide 5 Try.f5 rfl rfl rfl rfl rfl rfl rfl ⟨rfl, rfl, rfl, rfl, rfl⟩ rfl rfl rfl rfl rfl (by kernel_rfl) Try.func5 (by kernel_rfl)
    (of_decide_eq_true (by kernel_rfl)) (by unfold Func.isWrapper; first | (rw [if_pos (by decide +kernel)]; kernel_rfl) | (rw [if_neg (by decide +kernel)]; exact ⟨rfl, rfl⟩))
    (fun os started H enc _ => lifted os started H enc)

/-- ████ THE STATEMENT ████ -/
theorem proved : Rows.CodecBackSaid := over
#print axioms proved
end Go.Proofs.Ytlpphnhamfgmiaa.codecBack
