/-
  THE SHELL OF A PROOF OF 'Rows.CodecLinearSaid' ('tracebook/tracebooklaw05.CodecLinear'), WRITTEN BY PROGRAM (proof-skeleton.mjs, third state) off the guide's own print for that function. Not trusted: Lean checks it.
  YOURS IS THE HOLE MARKED 'HOLE' (it bears 'sorry'). ALL ELSE IS THE GUIDE's OWN WAY (howto/template/XProofs.lean; Derived/Test/ChunkProofs.lean for 'Below') at this function's number and types: leave it.
-/
import Derived.Test.YtlpphnhamfgmiaaUse
import Derived.Test.YtlpphnhamfgmiaaPlainLin
import Derived.StillTailTactics
import Derived.WalkKit
import Derived.ProofKit
import Derived.OpenShut
import Derived.ShutString
import Derived.ChangeOld
import Derived.Below
namespace Go.Proofs.Ytlpphnhamfgmiaa.codecLinear
open Go.ChangeShapes Go.WideShapes Go.ChangeAt Go.RowKit
open Go.ChangeMaps (open_string shut_string)
set_option linter.unusedVariables false

theorem own : ownKnob Try.prog.godebug = none := by kernel_rfl
theorem laidOut : laidOutB Try.prog = true := by kernel_rfl

/-! ### STEP 1: THE WALK: the Go text returns true, AND WRITES NOTHING THAT WAS THERE: 'Below w.heap.size w w'' (Derived/Below.lean: '.refl', '.alloc', '.drew', '.setCell' at a new block, '.trans'). Open each 'IsRow' by 'rcases' AHEAD of 'go_enter'; part every test ahead of the walk. -/
set_option maxRecDepth 100000 in
set_option maxHeartbeats 3200000 in
theorem walk (a0 : Option Addr) (len0 cap0 : Nat) (z0 : List Int) (a1 : Option Addr) (len1 cap1 : Nat) (z1 : List Int) (a2 : Option Addr) (len2 cap2 : Nat) (z2 : List Int) (w : World) (w0 : IsRow .u8 w a0 len0 cap0 z0) (w1 : IsRow .u8 w a1 len1 cap1 z1) (w2 : IsRow .u8 w a2 len2 cap2 z2) :
    Calls Try.prog 10 #[.slice a0 len0 cap0, .slice a1 len1 cap1, .slice a2 len2 cap2] w fun e w' => e = .returned (.bool true) ∧ Below w.heap.size w w' := by
  obtain ⟨xa, rfl, ha⟩ := arg_of w0
  obtain ⟨xb, rfl, hb⟩ := arg_of w1
  obtain ⟨xc, rfl, hc⟩ := arg_of w2
  have hm0 := ha.max
  have hm1 := hb.max
  have hm2 := hc.max
  have hl0 := ha.le
  have hl1 := hb.le
  have hl2 := hc.le
  by_cases t1 : 300 < xa.length
  · go_enter Try.func10, Try.ntmps10
    go_wp2_with fail
    refine (lives_any _).mono ?_
    rintro e w' ⟨rfl, hb⟩
    go_wp2
    go_ret
    exact ⟨rfl, hb⟩
  · by_cases t2 : xb.length < xa.length
    · go_enter Try.func10, Try.ntmps10
      go_wp2_with fail
      refine (lives_any _).mono ?_
      rintro e w' ⟨rfl, hb⟩
      go_wp2
      go_ret
      exact ⟨rfl, hb⟩
    · by_cases t3 : xc.length < xa.length
      · go_enter Try.func10, Try.ntmps10
        go_wp2_with fail
        refine (lives_any _).mono ?_
        rintro e w' ⟨rfl, hb⟩
        go_wp2
        go_ret
        exact ⟨rfl, hb⟩
      · obtain ⟨i0, hi0, hz0, hz1, hz2⟩ := info_parts u8_info
        have hown0 := own_empty w w.heap.size (Nat.le_refl _)
        have hra := ha.reads.alloc (Nat.le_refl _) (.cells #[] 5)
        go_enter Try.func10, Try.ntmps10
        go_wp2_with (first
          | (at_builtin
             refine wpList_append_any _ rfl (.tmp 27) (.tmp 28) _ rfl w.heap.size 5 i0 _ 1 1 Try.underlying22 hi0 hz0 hz1 hz2 rfl (by omega) (.slice (some ⟨w.heap.size, 0, none⟩) 0 0) 0 [] rfl hown0 w.heap.size a0 xa.length cap0 _ rfl hra (one_u8 _) (by simp only [maxLen]; omega) (by omega) (by simp) ?_
             intro v1 V1 hown1 hg1 hat1))
        have hb1 : Below w.heap.size w V1 := ((Below.refl _ _).alloc (Nat.le_refl _) (.cells #[] 5)).grown hg1 (by simp) (fun k hk => by simp [Value.ownBlock] at hk; omega)
        rw [Nat.zero_add, List.nil_append] at hown1
        clear hra hown0 hg1 hat1
        by_cases hn0 : xa.length = 0
        · obtain rfl : xa = [] := List.eq_nil_of_length_eq_zero hn0
          obtain ⟨A, c, rfl⟩ : ∃ A c, v1 = .slice A 0 c := by
            rcases hown1.2 with ⟨rfl, _⟩ | ⟨g, cap, cur, rfl, _⟩
            · exact ⟨_, _, rfl⟩
            · exact ⟨_, _, rfl⟩
          have s1 := sum_empty A c V1.drew
          have s2 := sum_empty a0 cap0 V1.drew
          have s3 := sum_empty a1 cap1 V1.drew
          have s4 := sum_empty a2 cap2 V1.drew
          rw [show crc [] = 0 by decide] at s1 s2 s3 s4
          have S1 := Lib.hid (s1.mono (fun _ _ h => (⟨h.1, h.2.symm⟩ : _ ∧ _)))
          have S2 := Lib.hid (s2.mono (fun _ _ h => (⟨h.1, h.2.symm⟩ : _ ∧ _)))
          have S3 := Lib.hid (s3.mono (fun _ _ h => (⟨h.1, h.2.symm⟩ : _ ∧ _)))
          have S4 := Lib.hid (s4.mono (fun _ _ h => (⟨h.1, h.2.symm⟩ : _ ∧ _)))
          have hbx : bits .xor .i64 (bits .xor .i64 0 0) 0 = 0 := by decide +kernel
          clear s1 s2 s3 s4 hown1
          refine wp_loop_rounds 1 ?_
          rw [rounds_succ]
          go_wp2
          refine wp_region_still_tail 18 (by kernel_rfl) (by kernel_rfl) ?_
          simp only [List.take_succ_cons, List.take_zero, List.drop_succ_cons, List.drop_zero]
          have q1 : 0 ≤ cap1 := by omega
          have q2 : 0 ≤ cap2 := by omega
          change wpStill Try.prog _ V1.drew _ _ _
          have hbd := hb1.drew
          generalize V1.drew = wd at S1 S2 S3 S4 hbd
          repeat still_step
          (refine wpStill_step (fun K hK => ?_)
           go_simp
           refine ⟨_, S1.out, hK _ ?_⟩
           clear hK K)
          repeat still_step
          (refine wpStill_step (fun K hK => ?_)
           go_simp
           refine ⟨_, S2.out, hK _ ?_⟩
           clear hK K)
          repeat still_step
          (refine wpStill_step (fun K hK => ?_)
           go_simp
           refine ⟨_, S3.out, hK _ ?_⟩
           clear hK K)
          repeat still_step
          (refine wpStill_step (fun K hK => ?_)
           go_simp
           refine ⟨_, S4.out, hK _ ?_⟩
           clear hK K)
          repeat still_step
          refine wpStill_nil ?_
          change wpList _ _ _ _ _ V1.drew
          go_wp2_with fail
          refine (lives_any _).mono ?_
          rintro e W9 ⟨rfl, hb9⟩
          go_wp2
          go_ret
          exact ⟨rfl, hb1.drew.trans (hb9.mono hb1.drew.size)⟩
        · obtain ⟨g, c, rfl, hmd⟩ := made_of_own hown1 (by omega)
          clear hmd
          obtain ⟨b0, o0, rfl, hc0⟩ : ∃ b off, a0 = some ⟨b, off, none⟩ ∧ ∀ j, j < xa.length → w.cell? ⟨b, off + j, none⟩ = some (.int .u8 (xa.getD j 0)) := by
            rcases ha.row with h | h
            · subst h; simp at hn0
            · exact h
          obtain ⟨b1, o1, rfl, hc1⟩ : ∃ b off, a1 = some ⟨b, off, none⟩ ∧ ∀ j, j < xb.length → w.cell? ⟨b, off + j, none⟩ = some (.int .u8 (xb.getD j 0)) := by
            rcases hb.row with h | h
            · subst h; exact absurd (show ([] : List Int).length < xa.length by simp; omega) t2
            · exact h
          obtain ⟨b2, o2, rfl, hc2⟩ : ∃ b off, a2 = some ⟨b, off, none⟩ ∧ ∀ j, j < xc.length → w.cell? ⟨b, off + j, none⟩ = some (.int .u8 (xc.getD j 0)) := by
            rcases hc.row with h | h
            · subst h; exact absurd (show ([] : List Int).length < xa.length by simp; omega) t3
            · exact h
          have hgw := (hown1.lt g rfl).1
          go_loopw [8] (fun i wr => ∃ k : Nat, k ≤ xa.length ∧ i = .int .i64 k ∧ wr.ownsRow w.heap.size 5 1 (.slice (some ⟨g, 0, none⟩) xa.length c) xa.length ((mixed xa xb xc k).map (Value.int .u8)) ∧ Below w.heap.size w wr) (fun i _ => xa.length - (intOf i).toNat)
          case atStart => exact ⟨0, by omega, rfl, by rw [mixed_zero]; exact hown1, hb1⟩
          case round =>
            obtain ⟨k, hk, rfl, hownk, hbk⟩ := hrel
            by_cases hlt : k < xa.length
            · have e0 := (hbk.cell (p := ⟨b0, o0 + k, none⟩) (cell_lt (hc0 k hlt) : b0 < w.heap.size)).trans (hc0 k hlt)
              have e1 := (hbk.cell (p := ⟨b1, o1 + k, none⟩) (cell_lt (hc1 k (by omega)) : b1 < w.heap.size)).trans (hc1 k (by omega))
              have e2 := (hbk.cell (p := ⟨b2, o2 + k, none⟩) (cell_lt (hc2 k (by omega)) : b2 < w.heap.size)).trans (hc2 k (by omega))
              have e3 : wr.cell? ⟨g, k, none⟩ = some (.int .u8 (xa.getD k 0)) := by
                rw [hownk.cellAt k (by omega)]; exact mixed_at _ _ _ hlt
              have e4 := hownk.frozenAt k
              have hx : bits .xor .u8 (bits .xor .u8 (xa.getD k 0) (xb.getD k 0)) (xc.getD k 0) = mix xa xb xc k := xor_u8x3 (ha.inb.getD k) (hb.inb.getD k) (hc.inb.getD k)
              have hset := mixed_set xa xb xc hlt
              have hstored := hownk.stored k (.int .u8 (mix xa xb xc k))
              generalize xa.getD k 0 = y0 at e0 e3 hx
              generalize xb.getD k 0 = y1 at e1 hx
              generalize xc.getD k 0 = y2 at e2 hx
              rw [hset] at hstored
              generalize mix xa xb xc k = y at hx hstored
              have Hst := Lib.hid hstored
              have Hown := Lib.hid hownk
              clear hset hstored hownk hc0 hc1 hc2 hown1
              go_wp2
              go_region
              go_wp2
              go_roundw
              case rel => exact ⟨k + 1, by omega, by go_num, Hst.out.1.drew, (hbk.grown Hst.out.2 hbk.size (fun j hj => by simp at hj; omega)).drew⟩
              case measure => simp [intOf]; omega
            · obtain rfl : k = xa.length := by omega
              have hownm := hownk
              obtain ⟨g', c', hv, hmd⟩ := made_of_own hownk (by omega)
              simp only [Value.slice.injEq, Option.some.injEq, Addr.mk.injEq, and_true, true_and] at hv
              obtain ⟨rfl, rfl⟩ := hv
              have s1 := sum_row (some ⟨g, 0, none⟩) xa.length c _ wr.drew hmd.len (by rw [← hmd.len]; omega) (mixed_in ha.inb hb.inb hc.inb _) (hmd.keep (Below.refl _ _).drew).brow
              have s2 := sum_row _ xa.length cap0 xa wr.drew rfl (by omega) ha.inb (ha.keep hbk.drew).row
              have s3 := sum_row _ xa.length cap1 (xb.take xa.length) wr.drew (by rw [List.length_take]; omega) (by rw [List.length_take]; omega) (hb.inb.take _) ((hb.keep hbk.drew).take _)
              have s4 := sum_row _ xa.length cap2 (xc.take xa.length) wr.drew (by rw [List.length_take]; omega) (by rw [List.length_take]; omega) (hc.inb.take _) ((hc.keep hbk.drew).take _)
              have hlin := crc_linear ha.inb hb.inb hc.inb (by omega) (by omega)
              have l1 := reg_lt (mixed_in ha.inb hb.inb hc.inb xa.length)
              have l2 := reg_lt ha.inb
              have l3 := reg_lt (hb.inb.take xa.length)
              have l4 := reg_lt (hc.inb.take xa.length)
              unfold crc at s1 s2 s3 s4
              generalize reg (mixed xa xb xc xa.length) ^^^ 4294967295 = r1 at s1 hlin
              have x34 := flip_lt l2
              have x35 := flip_lt l3
              have x36 := flip_lt l4
              generalize reg xa ^^^ 4294967295 = r2 at s2 hlin x34
              generalize reg (xb.take xa.length) ^^^ 4294967295 = r3 at s3 hlin x35
              generalize reg (xc.take xa.length) ^^^ 4294967295 = r4 at s4 hlin x36
              have S1 := Lib.hid (s1.mono (fun _ _ h => (⟨h.1, h.2.symm⟩ : _ ∧ _)))
              have S2 := Lib.hid (s2.mono (fun _ _ h => (⟨h.1, h.2.symm⟩ : _ ∧ _)))
              have S3 := Lib.hid (s3.mono (fun _ _ h => (⟨h.1, h.2.symm⟩ : _ ∧ _)))
              have S4 := Lib.hid (s4.mono (fun _ _ h => (⟨h.1, h.2.symm⟩ : _ ∧ _)))
              have hbx := xor_i64x2 x34 x35 x36
              rw [← hlin] at hbx
              have Hlin := Lib.hid hlin
              clear s1 s2 s3 s4 hlin hownk hownm hmd hown1 l1 l2 l3 l4 x34 x35 x36 hc0 hc1 hc2
              go_wp2
              refine wp_region_still_tail 18 (by kernel_rfl) (by kernel_rfl) ?_
              simp only [List.take_succ_cons, List.take_zero, List.drop_succ_cons, List.drop_zero]
              have q1 : xa.length ≤ cap1 := by omega
              have q2 : xa.length ≤ cap2 := by omega
              change wpStill Try.prog _ wr.drew _ _ _
              have hbd := hbk.drew
              generalize wr.drew = wd at S1 S2 S3 S4 hbd
              repeat still_step
              (refine wpStill_step (fun K hK => ?_)
               go_simp
               refine ⟨_, S1.out, hK _ ?_⟩
               clear hK K)
              repeat still_step
              (refine wpStill_step (fun K hK => ?_)
               go_simp
               refine ⟨_, S2.out, hK _ ?_⟩
               clear hK K)
              repeat still_step
              (refine wpStill_step (fun K hK => ?_)
               go_simp
               refine ⟨_, S3.out, hK _ ?_⟩
               clear hK K)
              repeat still_step
              (refine wpStill_step (fun K hK => ?_)
               go_simp
               refine ⟨_, S4.out, hK _ ?_⟩
               clear hK K)
              repeat still_step
              refine wpStill_nil ?_
              change wpList _ _ _ _ _ wr.drew
              go_wp2_with fail
              refine (lives_any _).mono ?_
              rintro e W9 ⟨rfl, hb9⟩
              go_wp2
              go_ret
              exact ⟨rfl, hbk.drew.trans (hb9.mono hbk.drew.size)⟩

/-! ### THE ROW's STEP: WRITTEN OUT: LEAVE IT -/
set_option maxRecDepth 100000 in
theorem lifted (os : Os) (started : os.Started) (H : Type) (enc : TypeId × Value → H) :
    ReturnsInHanded {} Try.checked os 10 .any (Rows.codecLinearSpec.pre6 enc Try.prog Try.f10 Rows.codecLinearRow.domain false) (Rows.codecLinearSpec.post enc Try.prog Try.f10 false true false false) := by
  refine returnsInHanded_of_change (C := Try.checked) own started (by kernel_rfl) Try.func10
    (ChangeSpec.witness6 (enc := enc) (C := Try.checked) false ⟨#[], #[.slice none 0 0, .slice none 0 0, .slice none 0 0], []⟩ 8 (by kernel_rfl) (by kernel_rfl) (by kernel_rfl) (by kernel_rfl)) ?_
  intro W base args ds gs before hval0 hW hcnd _
  have hval : ∀ (j : Nat) t v, Try.f10.params[j]? = some t → args[j]? = some v → Value.okWide Try.prog W .any base t v := hval0
  have hW' := hW
  obtain ⟨p, q, hA0, hV, rfl, hfz, hnd⟩ := hW
  have hA : DataW.TrodAll enc Try.prog W 0 (fun _ => true) true Try.f10.params.toList args.toList ds p := hA0
  rw [Try.params10] at hA hval
  obtain ⟨v0, vs0, d0, ds0, p0, q0, hargs, rfl, rfl, h0, r0⟩ := trodAll_cons hA
  obtain ⟨v1, vs1, d1, ds1, p1, q1, rfl, rfl, rfl, h1, r1⟩ := trodAll_cons r0
  obtain ⟨v2, vs2, d2, ds2, p2, q2, rfl, rfl, rfl, h2, r2⟩ := trodAll_cons r1
  obtain ⟨rfl, rfl, rfl⟩ := trodAll_nil r2
  obtain rfl : args = #[v0, v1, v2] := by cases args; simp_all
  obtain ⟨rfl, rfl⟩ := trodVars_none hV
  obtain ⟨a0, len0, cap0, rfl⟩ := okWide_slice Try.underlying22 (hval 0 22 v0 rfl rfl)
  have k0 := h0
  have lt0 : ∀ x ∈ p0, x.block < W.heap.size := by obtain ⟨m, hm⟩ := k0; exact DataW.trod_lt m _ _ _ hm
  obtain ⟨z0, w0⟩ : ∃ zs, IsRow .u8 W a0 len0 cap0 zs := by
    obtain ⟨fuel, hf⟩ := h0
    rcases open_ints Try.underlying22 Try.underlying5 (by kernel_rfl) hf with ⟨hcs, _⟩ | ⟨x, l, c, zs, hcs, _, hl, hm, hz, _, hcell, hwz⟩
    · simp [Value.cells] at hcs
      obtain ⟨rfl, rfl, rfl⟩ := hcs
      exact ⟨[], .inl ⟨rfl, rfl, rfl, rfl⟩⟩
    · simp [Value.cells] at hcs
      obtain ⟨rfl, rfl, rfl⟩ := hcs
      exact ⟨zs, .inr ⟨_, rfl, hl, hm, by simpa using hz, hcell, hwz⟩⟩
  obtain ⟨a1, len1, cap1, rfl⟩ := okWide_slice Try.underlying22 (hval 1 22 v1 rfl rfl)
  have k1 := h1
  have lt1 : ∀ x ∈ p1, x.block < W.heap.size := by obtain ⟨m, hm⟩ := k1; exact DataW.trod_lt m _ _ _ hm
  obtain ⟨z1, w1⟩ : ∃ zs, IsRow .u8 W a1 len1 cap1 zs := by
    obtain ⟨fuel, hf⟩ := h1
    rcases open_ints Try.underlying22 Try.underlying5 (by kernel_rfl) hf with ⟨hcs, _⟩ | ⟨x, l, c, zs, hcs, _, hl, hm, hz, _, hcell, hwz⟩
    · simp [Value.cells] at hcs
      obtain ⟨rfl, rfl, rfl⟩ := hcs
      exact ⟨[], .inl ⟨rfl, rfl, rfl, rfl⟩⟩
    · simp [Value.cells] at hcs
      obtain ⟨rfl, rfl, rfl⟩ := hcs
      exact ⟨zs, .inr ⟨_, rfl, hl, hm, by simpa using hz, hcell, hwz⟩⟩
  obtain ⟨a2, len2, cap2, rfl⟩ := okWide_slice Try.underlying22 (hval 2 22 v2 rfl rfl)
  have k2 := h2
  have lt2 : ∀ x ∈ p2, x.block < W.heap.size := by obtain ⟨m, hm⟩ := k2; exact DataW.trod_lt m _ _ _ hm
  obtain ⟨z2, w2⟩ : ∃ zs, IsRow .u8 W a2 len2 cap2 zs := by
    obtain ⟨fuel, hf⟩ := h2
    rcases open_ints Try.underlying22 Try.underlying5 (by kernel_rfl) hf with ⟨hcs, _⟩ | ⟨x, l, c, zs, hcs, _, hl, hm, hz, _, hcell, hwz⟩
    · simp [Value.cells] at hcs
      obtain ⟨rfl, rfl, rfl⟩ := hcs
      exact ⟨[], .inl ⟨rfl, rfl, rfl, rfl⟩⟩
    · simp [Value.cells] at hcs
      obtain ⟨rfl, rfl, rfl⟩ := hcs
      exact ⟨zs, .inr ⟨_, rfl, hl, hm, by simpa using hz, hcell, hwz⟩⟩
  clear hA0 hval0
  refine (walk a0 len0 cap0 z0 a1 len1 cap1 z1 a2 len2 cap2 z2 W w0 w1 w2).mono fun e W' ⟨he, bel⟩ => ?_
  subst he
  exact ⟨_, rfl, _, _, _, [], _, [], hW', trodAll_mk1 (shut_bool Try.underlying4 _), (trodAll_cons_mk (Below.trod laidOut (by kernel_rfl) (of_decide_eq_true (by kernel_rfl)) k0 bel lt0) (trodAll_cons_mk (Below.trod laidOut (by kernel_rfl) (of_decide_eq_true (by kernel_rfl)) k1 bel lt1) (trodAll_cons_mk (Below.trod laidOut (by kernel_rfl) (of_decide_eq_true (by kernel_rfl)) k2 bel lt2) trodAll_mk0))), rfl, bel.frame _, fun h => by cases h⟩

theorem over : Rows.codecLinearRow.holds Try.pinned (OpenSpec.ofChange Rows.codecLinearSpec) :=
  OpenClaim.holds_of_wide 10 Try.f10 rfl rfl rfl rfl rfl rfl rfl ⟨rfl, rfl, rfl, rfl, rfl⟩ rfl rfl rfl rfl rfl (by kernel_rfl) Try.func10 (by kernel_rfl)
    (of_decide_eq_true (by kernel_rfl)) (by unfold Func.isWrapper; first | (rw [if_pos (by decide +kernel)]; kernel_rfl) | (rw [if_neg (by decide +kernel)]; exact ⟨rfl, rfl⟩))
    (fun os started H enc _ => lifted os started H enc)

/-- ████ THE STATEMENT ████ -/
theorem proved : Rows.CodecLinearSaid := over
#print axioms proved
end Go.Proofs.Ytlpphnhamfgmiaa.codecLinear
