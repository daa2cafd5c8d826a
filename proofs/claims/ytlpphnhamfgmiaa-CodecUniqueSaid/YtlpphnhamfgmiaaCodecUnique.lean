/-
  THE SHELL OF A PROOF OF 'Rows.CodecUniqueSaid' ('tracebook/tracebooklaw05.CodecUnique'), WRITTEN BY PROGRAM (proof-skeleton.mjs, third state) off the guide's own print for that function. Not trusted: Lean checks it.
  YOURS IS THE HOLE MARKED 'HOLE' (it bears 'sorry'). ALL ELSE IS THE GUIDE's OWN WAY (howto/template/XProofs.lean; Derived/Test/ChunkProofs.lean for 'Below') at this function's number and types: leave it.
-/
import Derived.Test.YtlpphnhamfgmiaaUse
import Derived.Deep.RegionHeld
import Derived.BigQuiet
import Derived.WalkSmall
import Derived.WalkKit
import Derived.ProofKit
import Derived.OpenShut
import Derived.ShutString
import Derived.ChangeOld
import Derived.Below
namespace Go.Proofs.Ytlpphnhamfgmiaa.codecUnique
open Go.ChangeShapes Go.WideShapes Go.ChangeAt Go.RowKit
open Go.ChangeMaps (open_string shut_string)
set_option linter.unusedVariables false

theorem own : ownKnob Try.prog.godebug = none := by kernel_rfl
theorem laidOut : laidOutB Try.prog = true := by kernel_rfl

/-! ### STEP 1: THE WALK: the Go text returns true, AND WRITES NOTHING THAT WAS THERE: 'Below w.heap.size w w'' (Derived/Below.lean: '.refl', '.alloc', '.drew', '.setCell' at a new block, '.trans'). Open each 'IsRow' by 'rcases' AHEAD of 'go_enter'; part every test ahead of the walk. -/
set_option maxRecDepth 100000 in
set_option maxHeartbeats 3200000 in
theorem walk (a0 : Option Addr) (len0 cap0 : Nat) (z0 : List Int) (a1 : Int) (w : World) (w0 : IsRow .u8 w a0 len0 cap0 z0) (w1 : (Lit.int .i64 a1).wf = true) :
    Calls Try.prog 6 #[.slice a0 len0 cap0, .int .i64 a1] w fun e w' => e = .returned (.bool true) ∧ Below w.heap.size w w' := by
  obtain ⟨zs, rfl, ha⟩ := arg_of w0
  have hm := ha.max
  have hle := ha.le
  by_cases h6 : 300 < zs.length
  · go_enter Try.func6, Try.ntmps6
    go_wp2_with fail
    refine (lives_any _).mono ?_
    rintro e w' ⟨rfl, hb⟩
    go_wp2
    go_ret
    exact ⟨rfl, hb⟩
  · rcases dec_cases zs with h | h | ⟨N, k, h, h1, h2, h3⟩
    · 
      have hk3 : ConvK w a0 cap0 zs 0 w := ⟨ha, by omega, Below.refl _ _⟩
      have c1 := int_row a0 _ cap0 zs w rfl (by omega) ha.inb ha.row
      rw [h] at c1
      simp only [trip] at c1
      have C1 := Lib.hid c1
      clear c1 h
      have D := Lib.hid (fun (W : World) => text_any a0 zs.length cap0 a1 zs W rfl (by omega) hle ha.inb)
      go_enter Try.func6, Try.ntmps6
      go_wp2_with fail
      refine C1.out.mono ?_
      rintro e1 w1 ⟨rfl, rfl⟩
      go_wp2_with fail
      go_quiet (fail)
      replace hk3 : ConvK w a0 cap0 zs 0 _ := hk3.keep (below_drewN (Below.refl _ _) nq)
      go_wp2_with fail

      generalize hdt : decText zs a1 = R at D
      obtain ⟨l, wh, f⟩ := R
      have E := decText_err hdt
      have U : f = 0 → _ := fun h => decText_unique (most := a1) (l := l) (wh := wh) ha.inb (by rw [hdt, h])
      clear hdt
      rcases E with rfl | E
      · obtain ⟨t1, t2, t3, t4, t5⟩ := U rfl
        clear U
        obtain ⟨q, rfl⟩ : ∃ q : Nat, wh = q := ⟨wh.toNat, by omega⟩
        rw [Int.toNat_natCast] at t3
        have hsz : (strOfNums l).size ≤ 100000 := by rw [strOfNums_size]; omega
        have P2 := Lib.hid (fun (W : World) => puttext_unique w a0 cap0 zs q (strOfNums l) W hsz t3)
        clear t3 hsz
        simp only [tripT] at D
        generalize strOfNums l = sl at D P2
        have hq0 : decide ((q : Int) < 1) = false := by simp; omega
        have hq9 : decide (q < 1) = false := by simp; omega
        have hq1 : decide (zs.length < q) = false := by simp; omega
        have hq2 : decide ((zs.length : Int) < (q : Int)) = false := by simp; omega
        have hqc : q ≤ cap0 := by omega
        have hqc2 : (q : Int) ≤ (cap0 : Int) := by omega
        refine (D.out _ hk3.1.row).mono ?_
        rintro e1 w1 ⟨rfl, rfl⟩
        go_wp2_with fail
        have hS : ConvS w a0 cap0 zs q _ := (ConvK.keep ⟨hk3.1, by omega, hk3.2.2⟩ (Below.refl _ _).drew).s
        unfold ConvS at hS
        go_region_held (fun W => (convert 22 9 (.slice a0 q cap0)).run Try.prog W = .ok (.string (strOfNums (zs.take q))) W ∧ ConvK w a0 cap0 zs q W)
          (first | assumption | exact hS3 | exact ⟨by assumption, by assumption⟩ | go_keep)
          (first
            | (go_at_call 13; refine (P2.out _ ?_).mono ?_; assumption; rintro e W ⟨g, c, rfl, hcv3, hS3⟩))
        have hk4 := hS3.2
        clear hS hS3 P2 D
        go_wp2_with fail
        refine (lives_any _).mono ?_
        rintro e w' ⟨rfl, hb⟩
        go_wp2
        go_ret
        exact ⟨rfl, hk4.2.2.trans (hb.mono hk4.2.2.size)⟩
      · simp only [tripT] at D
        generalize strOfNums l = sl at D
        clear U
        rcases E with rfl | rfl | rfl
        all_goals
          refine (D.out _ hk3.1.row).mono ?_
          rintro e1 w1 ⟨rfl, rfl⟩
          go_wp2_with fail
          go_quiet (fail)
          replace hk3 : ConvK w a0 cap0 zs 0 _ := hk3.keep (below_drewN (Below.refl _ _) nq)
          try rw [World.drewN_drewN] at hk3
          go_wp2_with fail
          refine (lives_any _).mono ?_
          rintro e w' ⟨rfl, hb⟩
          go_wp2
          go_ret
          exact ⟨rfl, hk3.2.2.trans (hb.mono hk3.2.2.size)⟩
    · 
      have hk3 : ConvK w a0 cap0 zs 0 w := ⟨ha, by omega, Below.refl _ _⟩
      have c1 := int_row a0 _ cap0 zs w rfl (by omega) ha.inb ha.row
      rw [h] at c1
      simp only [trip] at c1
      have C1 := Lib.hid c1
      clear c1 h
      have D := Lib.hid (fun (W : World) => text_any a0 zs.length cap0 a1 zs W rfl (by omega) hle ha.inb)
      go_enter Try.func6, Try.ntmps6
      go_wp2_with fail
      refine C1.out.mono ?_
      rintro e1 w1 ⟨rfl, rfl⟩
      go_wp2_with fail
      go_quiet (fail)
      replace hk3 : ConvK w a0 cap0 zs 0 _ := hk3.keep (below_drewN (Below.refl _ _) nq)
      go_wp2_with fail

      generalize hdt : decText zs a1 = R at D
      obtain ⟨l, wh, f⟩ := R
      have E := decText_err hdt
      have U : f = 0 → _ := fun h => decText_unique (most := a1) (l := l) (wh := wh) ha.inb (by rw [hdt, h])
      clear hdt
      rcases E with rfl | E
      · obtain ⟨t1, t2, t3, t4, t5⟩ := U rfl
        clear U
        obtain ⟨q, rfl⟩ : ∃ q : Nat, wh = q := ⟨wh.toNat, by omega⟩
        rw [Int.toNat_natCast] at t3
        have hsz : (strOfNums l).size ≤ 100000 := by rw [strOfNums_size]; omega
        have P2 := Lib.hid (fun (W : World) => puttext_unique w a0 cap0 zs q (strOfNums l) W hsz t3)
        clear t3 hsz
        simp only [tripT] at D
        generalize strOfNums l = sl at D P2
        have hq0 : decide ((q : Int) < 1) = false := by simp; omega
        have hq9 : decide (q < 1) = false := by simp; omega
        have hq1 : decide (zs.length < q) = false := by simp; omega
        have hq2 : decide ((zs.length : Int) < (q : Int)) = false := by simp; omega
        have hqc : q ≤ cap0 := by omega
        have hqc2 : (q : Int) ≤ (cap0 : Int) := by omega
        refine (D.out _ hk3.1.row).mono ?_
        rintro e1 w1 ⟨rfl, rfl⟩
        go_wp2_with fail
        have hS : ConvS w a0 cap0 zs q _ := (ConvK.keep ⟨hk3.1, by omega, hk3.2.2⟩ (Below.refl _ _).drew).s
        unfold ConvS at hS
        go_region_held (fun W => (convert 22 9 (.slice a0 q cap0)).run Try.prog W = .ok (.string (strOfNums (zs.take q))) W ∧ ConvK w a0 cap0 zs q W)
          (first | assumption | exact hS3 | exact ⟨by assumption, by assumption⟩ | go_keep)
          (first
            | (go_at_call 13; refine (P2.out _ ?_).mono ?_; assumption; rintro e W ⟨g, c, rfl, hcv3, hS3⟩))
        have hk4 := hS3.2
        clear hS hS3 P2 D
        go_wp2_with fail
        refine (lives_any _).mono ?_
        rintro e w' ⟨rfl, hb⟩
        go_wp2
        go_ret
        exact ⟨rfl, hk4.2.2.trans (hb.mono hk4.2.2.size)⟩
      · simp only [tripT] at D
        generalize strOfNums l = sl at D
        clear U
        rcases E with rfl | rfl | rfl
        all_goals
          refine (D.out _ hk3.1.row).mono ?_
          rintro e1 w1 ⟨rfl, rfl⟩
          go_wp2_with fail
          go_quiet (fail)
          replace hk3 : ConvK w a0 cap0 zs 0 _ := hk3.keep (below_drewN (Below.refl _ _) nq)
          try rw [World.drewN_drewN] at hk3
          go_wp2_with fail
          refine (lives_any _).mono ?_
          rintro e w' ⟨rfl, hb⟩
          go_wp2
          go_ret
          exact ⟨rfl, hk3.2.2.trans (hb.mono hk3.2.2.size)⟩
    · have hu := dec_unique ha.inb h
      have c1 := int_row a0 _ cap0 zs w rfl (by omega) ha.inb ha.row
      rw [h] at c1
      simp only [trip] at c1
      generalize unzig N = v at hu c1
      obtain ⟨u1, u2, u3, u4, u5⟩ := hu
      have u6 : enc v = zs.take k := u5
      have P := Lib.hid (fun (W : World) => putint_unique w a0 cap0 zs k v W u1 u2 u6)
      have C1 := Lib.hid c1
      clear c1 u5 u6 h
      have hk0 : decide ((k : Int) < 1) = false := by simp; omega
      have hk9 : decide (k < 1) = false := by simp; omega
      have hk1 : decide (zs.length < k) = false := by simp; omega
      have hk2 : decide ((zs.length : Int) < (k : Int)) = false := by simp; omega
      have hkc : k ≤ cap0 := by omega
      have hkc2 : (k : Int) ≤ (cap0 : Int) := by omega
      have hS := convS_start w a0 cap0 zs k ha (by omega)
      go_enter Try.func6, Try.ntmps6
      go_wp2_with fail
      refine C1.out.mono ?_
      rintro e1 w1 ⟨rfl, rfl⟩
      go_wp2_with fail
      unfold ConvS at hS
      go_region_held (fun W => (convert 22 9 (.slice a0 k cap0)).run Try.prog W = .ok (.string (strOfNums (zs.take k))) W ∧ ConvK w a0 cap0 zs k W)
        (first | assumption | exact hS2 | exact ⟨by assumption, by assumption⟩ | go_keep)
        (first
          | (go_at_call 12; refine (P.out _ ?_).mono ?_; assumption; rintro e W ⟨g, c, rfl, hcv2, hS2⟩))
      clear hS
      have hk3 := hS2.2
      have D := Lib.hid (fun (W : World) => text_any a0 zs.length cap0 a1 zs W rfl (by omega) hle ha.inb)
      clear hcv2 hS2 P C1
      go_wp2_with fail

      generalize hdt : decText zs a1 = R at D
      obtain ⟨l, wh, f⟩ := R
      have E := decText_err hdt
      have U : f = 0 → _ := fun h => decText_unique (most := a1) (l := l) (wh := wh) ha.inb (by rw [hdt, h])
      clear hdt
      rcases E with rfl | E
      · obtain ⟨t1, t2, t3, t4, t5⟩ := U rfl
        clear U
        obtain ⟨q, rfl⟩ : ∃ q : Nat, wh = q := ⟨wh.toNat, by omega⟩
        rw [Int.toNat_natCast] at t3
        have hsz : (strOfNums l).size ≤ 100000 := by rw [strOfNums_size]; omega
        have P2 := Lib.hid (fun (W : World) => puttext_unique w a0 cap0 zs q (strOfNums l) W hsz t3)
        clear t3 hsz
        simp only [tripT] at D
        generalize strOfNums l = sl at D P2
        have hq0 : decide ((q : Int) < 1) = false := by simp; omega
        have hq9 : decide (q < 1) = false := by simp; omega
        have hq1 : decide (zs.length < q) = false := by simp; omega
        have hq2 : decide ((zs.length : Int) < (q : Int)) = false := by simp; omega
        have hqc : q ≤ cap0 := by omega
        have hqc2 : (q : Int) ≤ (cap0 : Int) := by omega
        refine (D.out _ hk3.1.row).mono ?_
        rintro e1 w1 ⟨rfl, rfl⟩
        go_wp2_with fail
        have hS : ConvS w a0 cap0 zs q _ := (ConvK.keep ⟨hk3.1, by omega, hk3.2.2⟩ (Below.refl _ _).drew).s
        unfold ConvS at hS
        go_region_held (fun W => (convert 22 9 (.slice a0 q cap0)).run Try.prog W = .ok (.string (strOfNums (zs.take q))) W ∧ ConvK w a0 cap0 zs q W)
          (first | assumption | exact hS3 | exact ⟨by assumption, by assumption⟩ | go_keep)
          (first
            | (go_at_call 13; refine (P2.out _ ?_).mono ?_; assumption; rintro e W ⟨g, c, rfl, hcv3, hS3⟩))
        have hk4 := hS3.2
        clear hS hS3 P2 D
        go_wp2_with fail
        refine (lives_any _).mono ?_
        rintro e w' ⟨rfl, hb⟩
        go_wp2
        go_ret
        exact ⟨rfl, hk4.2.2.trans (hb.mono hk4.2.2.size)⟩
      · simp only [tripT] at D
        generalize strOfNums l = sl at D
        clear U
        rcases E with rfl | rfl | rfl
        all_goals
          refine (D.out _ hk3.1.row).mono ?_
          rintro e1 w1 ⟨rfl, rfl⟩
          go_wp2_with fail
          go_quiet (fail)
          replace hk3 : ConvK w a0 cap0 zs k _ := hk3.keep (below_drewN (Below.refl _ _) nq)
          try rw [World.drewN_drewN] at hk3
          go_wp2_with fail
          refine (lives_any _).mono ?_
          rintro e w' ⟨rfl, hb⟩
          go_wp2
          go_ret
          exact ⟨rfl, hk3.2.2.trans (hb.mono hk3.2.2.size)⟩

/-! ### THE ROW's STEP: WRITTEN OUT: LEAVE IT -/
set_option maxRecDepth 100000 in
theorem lifted (os : Os) (started : os.Started) (H : Type) (enc : TypeId × Value → H) :
    ReturnsInHanded {} Try.checked os 6 .any (Rows.codecUniqueSpec.pre6 enc Try.prog Try.f6 Rows.codecUniqueRow.domain false) (Rows.codecUniqueSpec.post enc Try.prog Try.f6 false true false false) := by
  refine returnsInHanded_of_change (C := Try.checked) own started (by kernel_rfl) Try.func6
    (ChangeSpec.witness6 (enc := enc) (C := Try.checked) false ⟨#[], #[.slice none 0 0, .int .i64 0], []⟩ 8 (by kernel_rfl) (by kernel_rfl) (by kernel_rfl) (by kernel_rfl)) ?_
  intro W base args ds gs before hval0 hW hcnd _
  have hval : ∀ (j : Nat) t v, Try.f6.params[j]? = some t → args[j]? = some v → Value.okWide Try.prog W .any base t v := hval0
  have hW' := hW
  obtain ⟨p, q, hA0, hV, rfl, hfz, hnd⟩ := hW
  have hA : DataW.TrodAll enc Try.prog W 0 (fun _ => true) true Try.f6.params.toList args.toList ds p := hA0
  rw [Try.params6] at hA hval
  obtain ⟨v0, vs0, d0, ds0, p0, q0, hargs, rfl, rfl, h0, r0⟩ := trodAll_cons hA
  obtain ⟨v1, vs1, d1, ds1, p1, q1, rfl, rfl, rfl, h1, r1⟩ := trodAll_cons r0
  obtain ⟨rfl, rfl, rfl⟩ := trodAll_nil r1
  obtain rfl : args = #[v0, v1] := by cases args; simp_all
  obtain ⟨rfl, rfl⟩ := trodVars_none hV
  obtain ⟨a0, len0, cap0, rfl⟩ := okWide_slice Try.underlying22 (hval 0 22 v0 rfl rfl)
  have k0 := h0
  have lt0 : ∀ x ∈ p0, x.block < W.heap.size := by obtain ⟨m, hm⟩ := k0; exact DataW.trod_lt m _ _ _ hm
  obtain ⟨z0, w0⟩ : ∃ zs, IsRow .u8 W a0 len0 cap0 zs := by
    obtain ⟨fuel, hf⟩ := h0
    rcases open_ints Try.underlying22 Try.underlying5 (by kernel_rfl) hf with ⟨hcs, _⟩ | ⟨x, l, c, zs, hcs, _, hl, hm, hz, _, hcell, hwz⟩
    · simp [Value.cells] at hcs
      obtain ⟨rfl, rfl, rfl⟩ := hcs
      exact ⟨[], .inl ⟨rfl, rfl, rfl, rfl⟩⟩
    · simp [Value.cells] at hcs
      obtain ⟨rfl, rfl, rfl⟩ := hcs
      exact ⟨zs, .inr ⟨_, rfl, hl, hm, by simpa using hz, hcell, hwz⟩⟩
  obtain ⟨a1, rfl, rfl, rfl, w1⟩ := open_int Try.underlying3 (hval 1 3 v1 rfl rfl) h1
  clear hA0 hval0
  refine (walk a0 len0 cap0 z0 a1 W w0 w1).mono fun e W' ⟨he, bel⟩ => ?_
  subst he
  exact ⟨_, rfl, _, _, _, [], _, [], hW', trodAll_mk1 (shut_bool Try.underlying4 _), (trodAll_cons_mk (Below.trod laidOut (by kernel_rfl) (of_decide_eq_true (by kernel_rfl)) k0 bel lt0) (trodAll_cons_mk (shut_int Try.underlying3 w1) trodAll_mk0)), rfl, bel.frame _, fun h => by cases h⟩

theorem over : Rows.codecUniqueRow.holds Try.pinned (OpenSpec.ofChange Rows.codecUniqueSpec) :=
  OpenClaim.holds_of_wide 6 Try.f6 rfl rfl rfl rfl rfl rfl rfl ⟨rfl, rfl, rfl, rfl, rfl⟩ rfl rfl rfl rfl rfl (by kernel_rfl) Try.func6 (by kernel_rfl)
    (of_decide_eq_true (by kernel_rfl)) (by unfold Func.isWrapper; first | (rw [if_pos (by decide +kernel)]; kernel_rfl) | (rw [if_neg (by decide +kernel)]; exact ⟨rfl, rfl⟩))
    (fun os started H enc _ => lifted os started H enc)

/-- ████ THE STATEMENT ████ -/
theorem proved : Rows.CodecUniqueSaid := over
#print axioms proved
end Go.Proofs.Ytlpphnhamfgmiaa.codecUnique
