/- CodecChanges: changing bytes within four consecutive bytes changes the sum, and the sum lies from 0 below 2^32; for every input (for more than 300 bytes, or a place outside of them, the law says only that the chapter's examples hold). -/
import Derived.Test.YtlpphnhamfgmiaaUse
import Derived.Test.YtlpphnhamfgmiaaPlainChg
import Derived.Laws.IdiomArrays
import Derived.ProofKit
import Derived.OpenShut
import Derived.ChangeOld
namespace Go.Proofs.Ytlpphnhamfgmiaa.codecChanges
open Go.ChangeShapes Go.WideShapes Go.ChangeAt Go.RowKit
set_option linter.unusedVariables false

theorem own : ownKnob Try.prog.godebug = none := by kernel_rfl
theorem laidOut : laidOutB Try.prog = true := by kernel_rfl
theorem cells37 : Try.prog.cellsOf 37 = 4 := by kernel_rfl
theorem cells5 : Try.prog.cellsOf 5 = 1 := by kernel_rfl
theorem list4 {α : Type} (l : List α) (h : (⟨l⟩ : Array α).size = 4) : ∃ a b c d, l = [a, b, c, d] := by
  match l, h with
  | [a, b, c, d], _ => exact ⟨a, b, c, d, rfl⟩

set_option maxRecDepth 100000 in
set_option maxHeartbeats 3200000 in
theorem walk (a0 : Option Addr) (len0 cap0 : Nat) (z0 : List Int) (a1 : Int) (x0 x1 x2 x3 : Int) (w : World) (w0 : IsRow .u8 w a0 len0 cap0 z0) (w1 : (Lit.int .i64 a1).wf = true) (wb : InB [x0, x1, x2, x3]) :
    Calls Try.prog 9 #[.slice a0 len0 cap0, .int .i64 a1, .agg #[.int .u8 x0, .int .u8 x1, .int .u8 x2, .int .u8 x3]] w fun e w' => e = .returned (.bool true) ∧ Below w.heap.size w w' := by
  have hrange : -9223372036854775808 ≤ a1 ∧ a1 ≤ 9223372036854775807 := by simpa [Lit.wf, IntKind.min, IntKind.max, IntKind.signed, IntKind.bits] using w1
  obtain ⟨xs, rfl, ha⟩ := arg_of w0
  have hm := ha.max
  have hle := ha.le
  have hbox : Below w.heap.size w (w.alloc (.cells #[.int .u8 x0, .int .u8 x1, .int .u8 x2, .int .u8 x3] 37)) := (Below.refl _ _).alloc (Nat.le_refl _) _
  by_cases t1 : 300 < xs.length
  · go_enter Try.func9, Try.ntmps9
    go_wp2_with fail
    refine (lives_any _).mono ?_
    rintro e w' ⟨rfl, hb⟩
    go_wp2
    go_ret
    exact ⟨rfl, hbox.trans (hb.mono hbox.size)⟩
  · by_cases t2 : a1 < 0
    · go_enter Try.func9, Try.ntmps9
      go_wp2_with fail
      refine (lives_any _).mono ?_
      rintro e w' ⟨rfl, hb⟩
      go_wp2
      go_ret
      exact ⟨rfl, hbox.trans (hb.mono hbox.size)⟩
    · obtain ⟨p, rfl⟩ := Int.eq_ofNat_of_zero_le (Int.not_lt.1 t2)
      by_cases t3 : xs.length ≤ p
      · go_enter Try.func9, Try.ntmps9
        go_wp2_with fail
        refine (lives_any _).mono ?_
        rintro e w' ⟨rfl, hb⟩
        go_wp2
        go_ret
        exact ⟨rfl, hbox.trans (hb.mono hbox.size)⟩
      · obtain ⟨i0, hi0, hz0, hz1, hz2⟩ := info_parts u8_info
        obtain ⟨wx, hwx⟩ : ∃ wx, wx = w.alloc (.cells #[.int .u8 x0, .int .u8 x1, .int .u8 x2, .int .u8 x3] 37) := ⟨_, rfl⟩
        have hsz : wx.heap.size = w.heap.size + 1 := by rw [hwx]; simp
        have hby : ∀ i, i < 4 → wx.cell? ⟨w.heap.size, i, none⟩ = some (.int .u8 ([x0, x1, x2, x3].getD i 0)) := by
          intro i hi
          rw [hwx, World.cell?_alloc_mark]
          rcases i with _ | _ | _ | _ | i <;> first | omega | rfl
        rw [← hwx] at hbox
        have hax := ha.keep hbox
        have hown0 := own_empty wx wx.heap.size (Nat.le_refl _)
        have hra := hax.reads.alloc (Nat.le_refl _) (.cells #[] 5)
        generalize hbyl : [x0, x1, x2, x3] = by4 at hby wb
        have hb4 : by4.length = 4 := by rw [← hbyl]; rfl
        go_enter Try.func9, Try.ntmps9
        go_wp2_with (first
          | (at_builtin
             rw [← hwx]
             refine wpList_append_any _ rfl (.tmp 26) (.tmp 27) _ rfl wx.heap.size 5 i0 _ 1 1 Try.underlying22 hi0 hz0 hz1 hz2 rfl (by omega) (.slice (some ⟨wx.heap.size, 0, none⟩) 0 0) 0 [] (by rw [hsz]; rfl) hown0 wx.heap.size a0 xs.length cap0 _ rfl hra (one_u8 _) (by simp only [maxLen]; omega) (by omega) (by simp) ?_
             intro v1 V1 hown1 hg1 hat1
             have hb1 : Below wx.heap.size wx V1 := ((Below.refl _ _).alloc (Nat.le_refl _) (.cells #[] 5)).grown hg1 (by simp) (fun k hk => by simp [Value.ownBlock] at hk; omega)
             rw [Nat.zero_add, List.nil_append] at hown1))
        obtain ⟨b0, o0, rfl, hc0⟩ : ∃ b off, a0 = some ⟨b, off, none⟩ ∧ ∀ j, j < xs.length → wx.cell? ⟨b, off + j, none⟩ = some (.int .u8 (xs.getD j 0)) := by
          rcases hax.row with h | h
          · subst h; exact absurd (Nat.zero_le p) t3
          · exact h
        obtain ⟨g, c, rfl, hmd⟩ := made_of_own hown1 (by omega)
        have hgw := (hown1.lt g rfl).1
        have Hsz := Lib.hid hsz
        have Hbyl := Lib.hid hbyl
        have Hb4 := Lib.hid hb4
        have Hwx := Lib.hid hwx
        have hbl : w.heap.size < wx.heap.size := by omega
        clear hmd hsz hbyl hb4 hwx hra hown0 hg1 hat1
        go_loopw [8, 9] (fun q i wr => ∃ k : Nat, k ≤ 4 ∧ p + k ≤ xs.length ∧ i = .int .i64 k ∧ q = .bool (chg by4 k) ∧ wr.ownsRow wx.heap.size 5 1 (.slice (some ⟨g, 0, none⟩) xs.length c) xs.length ((patched xs by4 p k).map (Value.int .u8)) ∧ Below wx.heap.size wx wr) (fun _ i _ => 4 - (intOf i).toNat)
        case atStart => exact ⟨0, by omega, by omega, rfl, by simp [chg], by rw [patched_zero]; exact hown1, hb1⟩
        case round =>
          obtain ⟨k, hk, hpk, rfl, rfl, hownk, hbk⟩ := hrel
          by_cases hgo : k < 4 ∧ p + k < xs.length
          · obtain ⟨hk4, hlt⟩ := hgo
            have e0 := (hbk.cell (p := ⟨b0, o0 + (p + k), none⟩) (cell_lt (hc0 (p + k) hlt) : b0 < wx.heap.size)).trans (hc0 (p + k) hlt)
            have e1 := (hbk.cell (p := ⟨w.heap.size, k, none⟩) hbl).trans (hby k hk4)
            have e3 : wr.cell? ⟨g, p + k, none⟩ = some (.int .u8 (xs.getD (p + k) 0)) := by
              rw [hownk.cellAt (p + k) (by omega)]; exact patched_at _ _ hlt
            have e4 := hownk.frozenAt (p + k)
            have hx : bits .xor .u8 (xs.getD (p + k) 0) (by4.getD k 0) = (((xs.getD (p + k) 0).toNat ^^^ (by4.getD k 0).toNat : Nat) : Int) := xor_u8x2 (ha.inb.getD _) (wb.getD k)
            have hset := patched_set xs by4 hlt
            have hstored := hownk.stored (p + k) (.int .u8 (((xs.getD (p + k) 0).toNat ^^^ (by4.getD k 0).toNat : Nat) : Int))
            rw [hset] at hstored
            have hch := chg_succ (by4 := by4) (k := k) (by have := Hb4.out; omega)
            have wbk := wb.getD k
            generalize (((xs.getD (p + k) 0).toNat ^^^ (by4.getD k 0).toNat : Nat) : Int) = y at hx hstored
            generalize xs.getD (p + k) 0 = y0 at e0 e3 hx
            generalize by4.getD k 0 = y1 at e1 hx hch wbk
            have hgk : ∀ b : Bool, (b || (y1 != 0)) = chg by4 (k + 1) → True := fun _ _ => trivial
            have Hst := Lib.hid hstored
            have Hch := Lib.hid hch
            have hk4' : (k : Int) < 4 := by omega
            have hs1 : ((p : Int) + (k : Int)) < (xs.length : Int) := by omega
            have hs2 : 0 ≤ (p : Int) + (k : Int) := by omega
            have hs3 : ((p : Int) + (k : Int)).toNat = p + k := by omega
            have hne : (⟨g, p + k, none⟩ : Addr) ≠ ⟨w.heap.size, k, none⟩ := fun h => by injection h; omega
            clear hset hstored hch hownk hc0 hby hown1 hgk
            have e5 : (wr.setCell ⟨g, p + k, none⟩ (.int .u8 y)).cell? ⟨w.heap.size, k, none⟩ = some (.int .u8 y1) := by
              rw [World.cell?_setCell_other _ _ _ _ hne]; exact e1
            cases hcb : chg by4 k
            · have Hcb := Lib.hid hcb
              clear hcb
              go_wp2
              go_region
              go_wp2
              refine ⟨⟨k + 1, by omega, by omega, by go_num, ?_, Hst.out.1.drew, (hbk.grown Hst.out.2 hbk.size (fun j hj => by simp at hj; omega)).drew⟩, by simp [intOf]; omega⟩
              rw [Hch.out, Hcb.out]; simp
            · have Hcb := Lib.hid hcb
              clear hcb
              go_wp2
              go_region
              go_wp2
              refine ⟨⟨k + 1, by omega, by omega, by go_num, ?_, Hst.out.1.drew, (hbk.grown Hst.out.2 hbk.size (fun j hj => by simp at hj; omega)).drew⟩, by simp [intOf]; omega⟩
              rw [Hch.out, Hcb.out]; simp
          · obtain ⟨g', c', hv, hmd⟩ := made_of_own hownk (by omega)
            simp only [Value.slice.injEq, Option.some.injEq, Addr.mk.injEq, and_true, true_and] at hv
            obtain ⟨rfl, rfl⟩ := hv
            have s1 := sum_row (some ⟨b0, o0, none⟩) xs.length cap0 xs wr rfl (by omega) ha.inb (hax.keep hbk).row
            have s2 := sum_row (some ⟨g, 0, none⟩) xs.length c _ wr hmd.len (by rw [← hmd.len]; omega) (patched_in ha.inb wb p k) hmd.brow
            have hlaw := crc_patched ha.inb wb Hb4.out hpk hk
            have hl1 := flip_lt (reg_lt ha.inb)
            unfold crc at s1 s2
            generalize reg xs ^^^ 4294967295 = r1 at s1 hlaw hl1
            generalize reg (patched xs by4 p k) ^^^ 4294967295 = r2 at s2 hlaw
            have hbool : ((r1 : Int) != (r2 : Int)) = chg by4 k := by
              cases hc : chg by4 k
              · have := hlaw.2 (chg_iff.1 hc)
                simp [this]
              · have : r1 ≠ r2 := fun h => by rw [chg_iff.2 (hlaw.1 h)] at hc; cases hc
                simpa using fun h : (r1 : Int) = r2 => this (by omega)
            have S1 := Lib.hid s1
            have S2 := Lib.hid s2
            have hB : Below w.heap.size w wr := hbox.trans (hbk.mono hbox.size)
            generalize chg by4 k = cc at hbool
            have hcc : (cc == cc) = true := by simp
            have hq1 : (r1 : Int) < 4294967296 := by omega
            have hq0 : 0 ≤ (r1 : Int) := by omega
            have Hl1 := Lib.hid hl1
            clear hl1
            have Hlaw := Lib.hid hlaw
            clear s1 s2 hlaw hownk hmd hc0 hby hown1
            by_cases hk4 : k = 4
            · subst hk4
              go_wp2_with fail
              refine S1.out.mono ?_
              rintro e W1 ⟨rfl, rfl⟩
              go_wp2_with fail
              refine S2.out.mono ?_
              rintro e W1 ⟨rfl, rfl⟩
              go_wp2_with fail
              refine (lives_any _).mono ?_
              rintro e W4 ⟨rfl, hb⟩
              go_wp2
              go_ret
              exact ⟨rfl, hB.trans (hb.mono hB.size)⟩
            · have hk4' : (k : Int) < 4 := by omega
              have hs2 : 0 ≤ (p : Int) + (k : Int) := by omega
              have hs3 : ¬ ((p : Int) + (k : Int)) < (xs.length : Int) := by omega
              go_wp2_with fail
              refine S1.out.mono ?_
              rintro e W1 ⟨rfl, rfl⟩
              go_wp2_with fail
              refine S2.out.mono ?_
              rintro e W1 ⟨rfl, rfl⟩
              go_wp2_with fail
              refine (lives_any _).mono ?_
              rintro e W4 ⟨rfl, hb⟩
              go_wp2
              go_ret
              exact ⟨rfl, hB.trans (hb.mono hB.size)⟩

set_option maxRecDepth 100000 in
theorem lifted (os : Os) (started : os.Started) (H : Type) (enc : TypeId × Value → H) :
    ReturnsInHanded {} Try.checked os 9 .any (Rows.codecChangesSpec.pre6 enc Try.prog Try.f9 Rows.codecChangesRow.domain false) (Rows.codecChangesSpec.post enc Try.prog Try.f9 false true false false) := by
  refine returnsInHanded_of_change (C := Try.checked) own started (by kernel_rfl) Try.func9
    (ChangeSpec.witness6 (enc := enc) (C := Try.checked) false ⟨#[], #[.slice none 0 0, .int .i64 0, .agg #[.int .u8 0, .int .u8 0, .int .u8 0, .int .u8 0]], []⟩ 8 (by kernel_rfl) (by kernel_rfl) (by kernel_rfl) (by kernel_rfl)) ?_
  intro W base args ds gs before hval0 hW hcnd _
  have hval : ∀ (j : Nat) t v, Try.f9.params[j]? = some t → args[j]? = some v → Value.okWide Try.prog W .any base t v := hval0
  have hW' := hW
  obtain ⟨p, q, hA0, hV, rfl, hfz, hnd⟩ := hW
  have hA : DataW.TrodAll enc Try.prog W 0 (fun _ => true) true Try.f9.params.toList args.toList ds p := hA0
  rw [Try.params9] at hA hval
  obtain ⟨v0, vs0, d0, ds0, p0, q0, hargs, rfl, rfl, h0, r0⟩ := trodAll_cons hA
  obtain ⟨v1, vs1, d1, ds1, p1, q1, rfl, rfl, rfl, h1, r1⟩ := trodAll_cons r0
  obtain ⟨v2, vs2, d2, ds2, p2, q2, rfl, rfl, rfl, h2, r2⟩ := trodAll_cons r1
  obtain ⟨rfl, rfl, rfl⟩ := trodAll_nil r2
  obtain rfl : args = #[v0, v1, v2] := by cases args; simp_all
  obtain ⟨rfl, rfl⟩ := trodVars_none hV
  obtain ⟨a0, len0, cap0, rfl⟩ := okWide_slice Try.underlying22 (hval 0 22 v0 rfl rfl)
  have k0 := h0
  have lt0 : ∀ x ∈ p0, x.block < W.heap.size := by obtain ⟨m, hm⟩ := k0; exact DataW.trod_lt m _ _ _ hm
  obtain ⟨z0, w0⟩ : ∃ zs, IsRow .u8 W a0 len0 cap0 zs := by
    obtain ⟨fuel, hf⟩ := h0
    rcases open_ints Try.underlying22 Try.underlying5 (by kernel_rfl) hf with ⟨hcs, _⟩ | ⟨x, l, c, zs, hcs, _, hl, hm, hz, _, hcell, hwz⟩
    · simp [Value.cells] at hcs
      obtain ⟨rfl, rfl, rfl⟩ := hcs
      exact ⟨[], .inl ⟨rfl, rfl, rfl, rfl⟩⟩
    · simp [Value.cells] at hcs
      obtain ⟨rfl, rfl, rfl⟩ := hcs
      exact ⟨zs, .inr ⟨_, rfl, hl, hm, by simpa using hz, hcell, hwz⟩⟩
  obtain ⟨a1, rfl, rfl, rfl, w1⟩ := open_int Try.underlying3 (hval 1 3 v1 rfl rfl) h1
  have k2 := h2
  have lt2 : ∀ x ∈ p2, x.block < W.heap.size := by obtain ⟨m, hm⟩ := k2; exact DataW.trod_lt m _ _ _ hm
  obtain ⟨cs, rfl, hsz, _⟩ : ∃ cs, v2 = .agg cs ∧ cs.size = Try.prog.cellsOf 37 ∧ Row.okWide Try.prog W .any base 37 cs := by
    have := hval 2 37 v2 rfl rfl
    simpa [Value.okWide, Try.underlying37] using this
  rw [cells37] at hsz
  obtain ⟨l⟩ := cs
  obtain ⟨c0, c1, c2, c3, rfl⟩ := list4 l hsz
  obtain ⟨x0, x1, x2, x3, rfl, rfl, rfl, rfl, wb⟩ : ∃ x0 x1 x2 x3, c0 = .int .u8 x0 ∧ c1 = .int .u8 x1 ∧ c2 = .int .u8 x2 ∧ c3 = .int .u8 x3 ∧ InB [x0, x1, x2, x3] := by
    obtain ⟨fuel, hf⟩ := h2
    obtain ⟨y0, y1, y2, y3, m, hx, hy0, hy1, hy2, hy3⟩ := trod_array4 Try.underlying37 cells5 hf
    obtain ⟨x0, e0, rfl, w0⟩ := DataW.trod_int Try.underlying5 hy0
    obtain ⟨x1, e1, rfl, w1⟩ := DataW.trod_int Try.underlying5 hy1
    obtain ⟨x2, e2, rfl, w2⟩ := DataW.trod_int Try.underlying5 hy2
    obtain ⟨x3, e3, rfl, w3⟩ := DataW.trod_int Try.underlying5 hy3
    simp at e0 e1 e2 e3
    refine ⟨x0, x1, x2, x3, e0, e1, e2, e3, fun z hz => ?_⟩
    have hz' : z = x0 ∨ z = x1 ∨ z = x2 ∨ z = x3 := by simpa using hz
    rcases hz' with rfl | rfl | rfl | rfl
    · simpa [Lit.wf, IntKind.min, IntKind.max, IntKind.signed, IntKind.bits] using w0
    · simpa [Lit.wf, IntKind.min, IntKind.max, IntKind.signed, IntKind.bits] using w1
    · simpa [Lit.wf, IntKind.min, IntKind.max, IntKind.signed, IntKind.bits] using w2
    · simpa [Lit.wf, IntKind.min, IntKind.max, IntKind.signed, IntKind.bits] using w3
  clear hA0 hval0
  refine (walk a0 len0 cap0 z0 a1 x0 x1 x2 x3 W w0 w1 wb).mono fun e W' ⟨he, bel⟩ => ?_
  subst he
  exact ⟨_, rfl, _, _, _, [], _, [], hW', trodAll_mk1 (shut_bool Try.underlying4 _), (trodAll_cons_mk (Below.trod laidOut (by kernel_rfl) (of_decide_eq_true (by kernel_rfl)) k0 bel lt0) (trodAll_cons_mk (shut_int Try.underlying3 w1) (trodAll_cons_mk (Below.trod laidOut (by kernel_rfl) (of_decide_eq_true (by kernel_rfl)) k2 bel lt2) trodAll_mk0))), rfl, bel.frame _, fun h => by cases h⟩

theorem over : Rows.codecChangesRow.holds Try.pinned (OpenSpec.ofChange Rows.codecChangesSpec) :=
  OpenClaim.holds_of_wide 9 Try.f9 rfl rfl rfl rfl rfl rfl rfl ⟨rfl, rfl, rfl, rfl, rfl⟩ rfl rfl rfl rfl rfl (by kernel_rfl) Try.func9 (by kernel_rfl)
    (of_decide_eq_true (by kernel_rfl)) (by unfold Func.isWrapper; first | (rw [if_pos (by decide +kernel)]; kernel_rfl) | (rw [if_neg (by decide +kernel)]; exact ⟨rfl, rfl⟩))
    (fun os started H enc _ => lifted os started H enc)

/-- the statement -/
theorem proved : Rows.CodecChangesSaid := over
#print axioms proved
end Go.Proofs.Ytlpphnhamfgmiaa.codecChanges
