/- The operations that change no block: each does what its pure reading says (first part). -/
import Derived.Test.YtlnaibkpmklkiaaEvD
namespace Go.Proofs.Ytlnaibkpmklkiaa
open Go Go.RowKit
set_option linter.unusedSectionVars false
variable [Bs]
set_option linter.unusedVariables false

section
variable {P : Program} {o : Oper} {a : Act} {w w' : World} {next : Act → World → Prop} {Q : Exit → Act → World → Prop} {v : Value}
theorem wp_of_run (h : (execOp a.eval o).run P w = .ok (.value v) w') (hn : next (a.put o.dst v) w') : o.wp P a w next Q := by
  unfold Oper.wp; rw [h]; exact hn
theorem wp_of_skip (h : (execOp a.eval o).run P w = .ok .skip w') (hn : next (a.put o.dst undef) w') : o.wp P a w next Q := by
  unfold Oper.wp; rw [h]; exact hn
end

theorem run_value {P : Program} {s : Sem Value} {v : Value} {w w' : World} (h : s.run P w = .ok v w') : (do pure (Next.value (← s)) : Sem Next).run P w = .ok (.value v) w' := by
  simp [h]

theorem opd {m : Mem} {k : Nat} {sl : List PV} {a : Act} {x : Operand} {ax : AO} (hd : digV x = some ax) (ht : ∀ t, x = .tmp t → Rep m k (sl.getD t .top) (a.tmps.getD t undef)) : Rep m k (ax.ev sl) (a.eval x) := by
  cases x with
  | tmp t => simp [digV] at hd; subst hd; exact ht t rfl
  | const v => simp [digV] at hd; subst hd; exact (rep_ofVal m v).up (Nat.zero_le _)
  | func f => simp [digV] at hd; subst hd; exact .fn rfl (fun i p hp => by simp at hp)
  | global g => simp [digV] at hd

theorem getB_spec {bl : Blks} {b ver : Nat} {x : Blk} (h : getB bl b ver = some x) : bl[b]? = some (some x) ∧ x.ver = ver := by
  unfold getB at h
  split at h
  · split at h
    · rename_i hc; cases h; exact ⟨by assumption, hc.1⟩
    · cases h
  · cases h
theorem getB_ne {bl : Blks} {b ver : Nat} {x : Blk} (h : getB bl b ver = some x) : x.e < mapE := by
  unfold getB at h
  split at h
  · split at h
    · rename_i hc; cases h; exact hc.2
    · cases h
  · cases h
theorem getM_spec {bl : Blks} {b ver : Nat} {x : Blk} (h : getM bl b ver = some x) : bl[b]? = some (some x) ∧ x.ver = ver ∧ x.e = mapE := by
  unfold getM at h
  split at h
  · split at h
    · rename_i hc; cases h; exact ⟨by assumption, hc.1, hc.2⟩
    · cases h
  · cases h

/-- what is known before an operation -/
structure PurIn (B k : Nat) (m : Mem) (w : World) (bl : Blks) (ns : List Blk) (BL : Blks) : Prop where
  frz : FrzOk m w
  own : Owns B m k w BL
  hB : B ≤ w.heap.size
  sub : ∀ (j : Nat) (x : Option Blk), (bl ++ ns.map some)[j]? = some x → BL[j]? = some x
  fresh : ∀ j, j < ns.length → m.blk (bl.length + j) = none

theorem PurIn.old {B k m w bl ns BL} (h : PurIn B k m w bl ns BL) {b : Nat} {x : Option Blk} (hb : bl[b]? = some x) : BL[b]? = some x :=
  h.sub b x (by rw [List.getElem?_append_left (List.getElem?_eq_some_iff.1 hb).1]; exact hb)

theorem PurIn.one {B k m w bl x BL} (h : PurIn B k m w bl [x] BL) : BL[bl.length]? = some (some x) ∧ m.blk bl.length = none :=
  ⟨h.sub _ _ (by simp), by simpa using h.fresh 0 (by simp)⟩

/-- a cell that is read through a pointer -/
theorem ptr_read {B k m w bl ns BL} (h : PurIn B k m w bl ns BL) {b ver r off : Nat} {v : Value} {x : Blk} {row : List PV} (hr : Rep m k (.ptr b ver r off) v) (hg : getB bl b ver = some x) (hrow : x.rows[r]? = some row) :
    ∃ (i : Info), m.blk b = some i ∧ BlkAt m k w i x ∧ i.virt = false ∧ v = .pointer (some ⟨i.g, r * x.e + off, none⟩) ∧
      ∀ j p, row[j]? = some p → ∃ u, w.cell? ⟨i.g, r * x.e + j, none⟩ = some u ∧ u.oneCell' = true ∧ Rep m k p u := by
  cases hr with
  | ptr hb hi hv h1 ho =>
    rename_i i
    obtain ⟨hbl, hver⟩ := getB_spec hg
    have hat := (h.own.at_ b x i (h.old hbl) hi).blk (getB_ne hg)
    have hver' : i.ver = ver := hat.ver.trans hver
    rcases hat.mem with ⟨_, h0⟩ | ⟨hvirt, cur, ty, hg1, hg2, hg3, hg4, hg5⟩
    · rw [h0] at hrow; simp at hrow
    · refine ⟨i, hi, hat, hvirt, ?_, fun j p hp => ?_⟩
      · rw [← hat.e]; exact ho hver' hvirt
      · obtain ⟨u, hu, hone, hrep⟩ := hg5 r row j p hrow hp
        refine ⟨u, ?_, hone, ?_⟩
        · simpa [World.cell?, hg1] using hu
        · split at hrep
          · exact hrep.up (Nat.zero_le _)
          · exact hrep

theorem list_ex {P : Nat → Value → Prop} : ∀ (n : Nat), (∀ i, i < n → ∃ o, P i o) → ∃ L : List Value, L.length = n ∧ ∀ (i : Nat) (o : Value), L[i]? = some o → P i o
  | 0, _ => ⟨[], rfl, fun i o h => by simp at h⟩
  | n + 1, h => by
    obtain ⟨L, hl, hL⟩ := list_ex n (fun i hi => h i (by omega))
    obtain ⟨o, ho⟩ := h n (by omega)
    refine ⟨L ++ [o], by simp [hl], fun i o' hi => ?_⟩
    by_cases hin : i < n
    · rw [List.getElem?_append_left (by omega)] at hi
      exact hL i o' hi
    · have hlt := (List.getElem?_eq_some_iff.1 hi).1
      simp [hl] at hlt
      obtain rfl : i = n := by omega
      rw [List.getElem?_append_right (by omega)] at hi
      simp [hl] at hi
      subst hi
      exact ho

/-- the values of some cells, as a list -/
theorem read_cells {m : Mem} {k : Nat} {w : World} {ps : List PV} {b off : Nat} (h : ∀ j p, ps[j]? = some p → ∃ u, w.cell? ⟨b, off + j, none⟩ = some u ∧ u.oneCell' = true ∧ Rep m k p u) :
    ∃ cs : List Value, cs.length = ps.length ∧ (∀ j u, cs[j]? = some u → w.cell? ⟨b, off + j, none⟩ = some u ∧ u.oneCell' = true) ∧ ∀ j p, ps[j]? = some p → Rep m k p (cs.getD j undef) := by
  obtain ⟨cs, hl, hc⟩ := list_ex (P := fun j u => w.cell? ⟨b, off + j, none⟩ = some u ∧ u.oneCell' = true ∧ ∀ p, ps[j]? = some p → Rep m k p u) ps.length (fun j hj => by
    obtain ⟨u, h1, h2, h3⟩ := h j ps[j] (List.getElem?_eq_getElem hj)
    exact ⟨u, h1, h2, fun p hp => by rw [List.getElem?_eq_getElem hj] at hp; cases hp; exact h3⟩)
  refine ⟨cs, hl, fun j u hu => ⟨(hc j u hu).1, (hc j u hu).2.1⟩, fun j p hp => ?_⟩
  have hj : j < cs.length := by rw [hl]; exact (List.getElem?_eq_some_iff.1 hp).1
  have := (hc j cs[j] (List.getElem?_eq_getElem hj)).2.2 p hp
  simpa [List.getD, List.getElem?_eq_getElem hj] using this

theorem run_loadAt {P : Program} {w : World} {t : TypeId} {g : Bool} {i : TypeInfo} {b off : Nat} {cs : List Value} (hg : aggB P t = some g) (hi : P.info? t = some i) (hl : cs.length = i.size)
    (hc : ∀ j u, cs[j]? = some u → w.cell? ⟨b, off + j, none⟩ = some u) (h1 : g = true ∨ i.size = 1) :
    (Instr.loadAt t (.pointer (some ⟨b, off, none⟩))).run P w = .ok (if g then .agg cs.toArray else cs.getD 0 undef) w := by
  have hag : (isAgg t).run P w = .ok g w := by
    unfold aggB at hg
    unfold isAgg
    cases hu : P.underlying t with
    | none => rw [hu] at hg; cases hg
    | some d =>
      rw [hu] at hg
      cases d <;> simp [run_underlying hu] <;> simpa using hg.symm
  have hsz : (sizeOf t).run P w = .ok i.size w := by simp [sizeOf, typeInfo, hi]
  unfold Instr.loadAt Instr.sureAddr loadVar
  cases g with
  | true =>
    have hl' := run_loadCells_list (P := P) w ⟨b, off, none⟩ cs (fun j u hu => by rw [Addr.add_lit]; exact hc j u hu)
    rw [hl] at hl'
    simp [hag, hsz, hl']
  | false =>
    have h2 : i.size = 1 := by simpa using h1
    have hc0 : cs[0]? = some (cs.getD 0 undef) := by
      have : 0 < cs.length := by omega
      simp [List.getD, List.getElem?_eq_getElem this]
    have := hc 0 _ hc0
    simp only [Nat.add_zero] at this
    simp [hag, this]

theorem getD_arr (cs : List Value) (i : Nat) : cs.toArray.getD i undef = cs.getD i undef := by simp [Array.getD_eq_getD_getElem?, List.getD_eq_getElem?_getD]

theorem scal_rep {m : Mem} {k : Nat} {g : Bool} {ps : List PV} {p : PV} {cs : List Value} (h : scal g ps = some p) (hl : cs.length = ps.length) (hr : ∀ j p, ps[j]? = some p → Rep m k p (cs.getD j undef)) :
    Rep m k p (if g then .agg cs.toArray else cs.getD 0 undef) := by
  unfold scal at h
  cases g with
  | true =>
    simp only [if_true] at h ⊢
    cases h
    exact .agg (by simp [hl]) (fun i p hp => by rw [getD_arr]; exact hr i p hp)
  | false =>
    simp only [Bool.false_eq_true, if_false] at h ⊢
    split at h
    · cases h; exact hr 0 p rfl
    · cases h

end Go.Proofs.Ytlnaibkpmklkiaa
