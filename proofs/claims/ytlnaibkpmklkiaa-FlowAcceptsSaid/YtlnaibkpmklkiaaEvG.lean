/- The operations that change no block: those that read memory. -/
import Derived.Test.YtlnaibkpmklkiaaEvF
import Derived.Laws.BytesArg
namespace Go.Proofs.Ytlnaibkpmklkiaa
open Go Go.RowKit
set_option linter.unusedSectionVars false
variable [Bs]
set_option linter.unusedVariables false
set_option linter.unusedSimpArgs false

section
variable {P : Program} {call : Cl} {own : List Nat} {o : Oper}

theorem own_inv {m : Mem} {k b ver lo len : Nat} {v : Value} (h : Rep m k (.own b ver lo len) v) : ∃ i, b < k ∧ m.blk b = some i ∧ ver ≤ i.ver ∧ v.oneCell' = true ∧ (i.ver = ver → OwnVal i lo len v) := by
  generalize hp : PV.own b ver lo len = p at h
  cases h <;> first | (cases hp; exact ⟨_, by assumption, by assumption, by assumption, by assumption, by assumption⟩) | cases hp
theorem ptr_inv {m : Mem} {k b ver r off : Nat} {v : Value} (h : Rep m k (.ptr b ver r off) v) : ∃ i, b < k ∧ m.blk b = some i ∧ ver ≤ i.ver ∧ v.oneCell' = true ∧ (i.ver = ver → i.virt = false → v = .pointer (some ⟨i.g, r * i.e + off, none⟩)) := by
  generalize hp : PV.ptr b ver r off = p at h
  cases h <;> first | (cases hp; exact ⟨_, by assumption, by assumption, by assumption, by assumption, by assumption⟩) | cases hp
theorem nilS_inv {m : Mem} {k : Nat} {v : Value} (h : Rep m k .nilS v) : ∃ a, v = .slice a 0 0 := by
  generalize hp : PV.nilS = p at h
  cases h <;> first | (cases hp; exact ⟨_, rfl⟩) | cases hp
theorem fn_inv {m : Mem} {k f : Nat} {ps : List PV} {v : Value} (h : Rep m k (.fn f ps) v) : ∃ vs, v = .func (.func f) #[] vs ∧ ps.length = vs.size ∧ ∀ i p, ps[i]? = some p → Rep m k p (vs.getD i undef) := by
  generalize hp : PV.fn f ps = p at h
  cases h <;> first | (cases hp; exact ⟨_, rfl, by assumption, by assumption⟩) | cases hp
theorem cptr_inv {m : Mem} {k : Nat} {cells : List PV} {v : Value} (h : Rep m k (.cptr cells) v) : ∃ b off, v = .pointer (some ⟨b, off, none⟩) ∧ ∀ j p, cells[j]? = some p → ∃ u, m.cell b (off + j) = some u ∧ Rep m 0 p u := by
  generalize hp : PV.cptr cells = p at h
  cases h with
  | cptr h1 h2 => cases hp; exact ⟨_, _, rfl, fun j p hj => ⟨_, h1 j p hj, h2 j p hj⟩⟩
  | _ => cases hp
theorem sl_inv {m : Mem} {k : Nat} {ex : Bool} {e : Nat} {rows : List (List PV)} {v : Value} (h : Rep m k (.sl ex e rows) v) :
    ∃ base cap, v = .slice base rows.length cap ∧ rows.length ≤ cap ∧ cap ≤ maxLen ∧ (ex = true → cap = rows.length) ∧ (rows = [] ∨ ∃ b off, base = some ⟨b, off, none⟩ ∧ (∀ r ∈ rows, r.length = e) ∧
      ∀ i row j p, rows[i]? = some row → row[j]? = some p → ∃ u, m.cell b (off + i * e + j) = some u ∧ Rep m 0 p u) := by
  generalize hp : PV.sl ex e rows = p at h
  cases h with
  | sl h1 h2 h3 h4 h5 h6 => cases hp; exact ⟨_, _, rfl, h1, h2, h3, .inr ⟨_, _, rfl, h4, fun i row j p hr hj => ⟨_, h5 i j row p hr hj, h6 i j row p hr hj⟩⟩⟩
  | slz h1 h2 => cases hp; exact ⟨_, _, rfl, Nat.zero_le _, h1, by simpa using h2, .inl rfl⟩
  | _ => cases hp

/-- the block that a reference is to -/
theorem blk_of {B k : Nat} {m : Mem} {w : World} {bl BL : Blks} {ns : List Blk} (h : PurIn B k m w bl ns BL) {b ver : Nat} {x : Blk} {i : Info} (hg : getB bl b ver = some x) (hi : m.blk b = some i) : BlkAt m k w i x ∧ i.ver = ver := by
  obtain ⟨hbl, hver⟩ := getB_spec hg
  have hat := (h.own.at_ b x i (h.old hbl) hi).blk (getB_ne hg)
  exact ⟨hat, hat.ver.trans hver⟩

theorem pur_load {t : TypeId} {x : Operand} (h : o.op = .load t x) : PurSound P call own o := by
  intro ao B k m w sl bl BL a p ns next Q hd he hl hin hn
  simp only [digOp, h] at hd
  split at hd
  · rename_i ax g i hx hg hi
    split at hd
    · rename_i h1
      cases hd
      have rx := opd (a := a) (m := m) (k := k) (sl := sl) hx (fun t ht => hl t (by simp [h, Op.operands, ht]))
      simp only [evPur] at he
      split at he
      · rename_i b ver r off hp
        split at he
        · rename_i bx hgb
          split at he
          · rename_i row hrow
            split at he
            · rename_i hle
              split at he
              · rename_i q hq
                cases he
                rw [hp] at rx
                obtain ⟨inf, h2, h3, h4, h5, h6⟩ := ptr_read hin rx hgb hrow
                obtain ⟨cs, c1, c2, c3⟩ := read_cells (m := m) (k := k) (w := w) (ps := (row.drop off).take i.size) (b := inf.g) (off := r * bx.e + off) (fun j q hq => by
                  rw [List.getElem?_take] at hq
                  split at hq
                  · rw [List.getElem?_drop] at hq
                    rw [Nat.add_assoc]
                    exact h6 _ q hq
                  · cases hq)
                have hlen : ((row.drop off).take i.size).length = i.size := by simp; omega
                exact wp_of_run (by simp only [execOp, h, h5]; exact run_value (run_loadAt hg hi (c1.trans hlen) (fun j u hu => (c2 j u hu).1) h1)) (hn _ _ _ _ (PurOut.same hin.frz hin.own (scal_rep hq c1 c3)))
              · cases he
            · cases he
          · cases he
        · cases he
      · rename_i cells hp
        split at he
        · rename_i hle
          split at he
          · rename_i q hq
            cases he
            rw [hp] at rx
            obtain ⟨b, off, h5, h6⟩ := cptr_inv rx
            obtain ⟨cs, c1, c2, c3⟩ := read_cells (m := m) (k := k) (w := w) (ps := cells.take i.size) (b := b) (off := off) (fun j q hq => by
              rw [List.getElem?_take] at hq
              split at hq
              · obtain ⟨u, hu, hr⟩ := h6 _ q hq
                exact ⟨u, (hin.frz.1 _ _ _ hu).1, (hin.frz.1 _ _ _ hu).2, hr.up (Nat.zero_le _)⟩
              · cases hq)
            have hlen : (cells.take i.size).length = i.size := by simp; omega
            exact wp_of_run (by simp only [execOp, h, h5]; exact run_value (run_loadAt hg hi (c1.trans hlen) (fun j u hu => (c2 j u hu).1) h1)) (hn _ _ _ _ (PurOut.same hin.frz hin.own (scal_rep hq c1 c3)))
          · cases he
        · cases he
      · cases he
    · cases hd
  · cases hd

/-- a value read through a pointer -/
theorem load_run {B k : Nat} {m : Mem} {w : World} {bl BL : Blks} {ns : List Blk} (hin : PurIn B k m w bl ns BL) {t : TypeId} {g : Bool} {i : TypeInfo} (hg : aggB P t = some g) (hi : P.info? t = some i) (h1 : g = true ∨ i.size = 1)
    {p q : PV} {v : Value} (rx : Rep m k p v) (he : loadP bl i.size g p = some q) : ∃ u, (Instr.loadAt t v).run P w = .ok u w ∧ Rep m k q u := by
  unfold loadP at he
  split at he
  · rename_i b ver r off
    split at he
    · rename_i bx hgb
      split at he
      · rename_i row hrow
        split at he
        · rename_i hle
          obtain ⟨inf, h2, h3, h4, h5, h6⟩ := ptr_read hin rx hgb hrow
          obtain ⟨cs, c1, c2, c3⟩ := read_cells (m := m) (k := k) (w := w) (ps := (row.drop off).take i.size) (b := inf.g) (off := r * bx.e + off) (fun j q hq => by
            rw [List.getElem?_take] at hq
            split at hq
            · rw [List.getElem?_drop] at hq
              rw [Nat.add_assoc]
              exact h6 _ q hq
            · cases hq)
          have hlen : ((row.drop off).take i.size).length = i.size := by simp; omega
          rw [h5]
          exact ⟨_, run_loadAt hg hi (c1.trans hlen) (fun j u hu => (c2 j u hu).1) h1, scal_rep he c1 c3⟩
        · cases he
      · cases he
    · cases he
  · rename_i cells
    split at he
    · rename_i hle
      obtain ⟨b, off, h5, h6⟩ := cptr_inv rx
      obtain ⟨cs, c1, c2, c3⟩ := read_cells (m := m) (k := k) (w := w) (ps := cells.take i.size) (b := b) (off := off) (fun j q hq => by
        rw [List.getElem?_take] at hq
        split at hq
        · obtain ⟨u, hu, hr⟩ := h6 _ q hq
          exact ⟨u, (hin.frz.1 _ _ _ hu).1, (hin.frz.1 _ _ _ hu).2, hr.up (Nat.zero_le _)⟩
        · cases hq)
      have hlen : (cells.take i.size).length = i.size := by simp; omega
      rw [h5]
      exact ⟨_, run_loadAt hg hi (c1.trans hlen) (fun j u hu => (c2 j u hu).1) h1, scal_rep he c1 c3⟩
    · cases he
  · cases he

theorem pur_nilck {x : Operand} (h : o.op = .nilCheck x) : PurSound P call own o := by
  intro ao B k m w sl bl BL a p ns next Q hd he hl hin hn
  simp only [digOp, h] at hd
  split at hd
  · rename_i ax hx
    cases hd
    have rx := opd (a := a) (m := m) (k := k) (sl := sl) hx (fun t ht => hl t (by simp [h, Op.operands, ht]))
    simp only [evPur] at he
    split at he
    · rename_i b ver r off hp
      split at he
      · rename_i bx hgb
        split at he
        · rename_i row hrow
          cases he
          have rx' := rx
          rw [hp] at rx'
          obtain ⟨i, h1, h2, h3, h4, h5⟩ := ptr_read hin rx' hgb hrow
          exact wp_of_run (v := a.eval x) (by simp only [execOp, h, h4]; rfl) (hn _ _ _ _ (PurOut.same hin.frz hin.own rx'))
        · cases he
      · cases he
    · rename_i cells hp
      cases he
      have rx' := rx
      rw [hp] at rx'
      obtain ⟨b, off, h5, _⟩ := cptr_inv rx'
      exact wp_of_run (v := a.eval x) (by simp only [execOp, h, h5]; rfl) (hn _ _ _ _ (PurOut.same hin.frz hin.own rx'))
    · rename_i f caps hp
      cases he
      have rx' := rx
      rw [hp] at rx'
      obtain ⟨vs, h5, _⟩ := fn_inv rx'
      exact wp_of_run (v := a.eval x) (by simp only [execOp, h, h5]; rfl) (hn _ _ _ _ (PurOut.same hin.frz hin.own rx'))
    · cases he
  · cases hd

theorem run_fieldAt {t : TypeId} {fs : Array Field} {f : Nat} {fd : Field} {i : TypeInfo} {b off : Nat} {w : World} (hu : P.underlying t = some (.struct fs)) (hf : fs[f]? = some fd) (hi : P.info? fd.type = some i) (h0 : i.size ≠ 0) :
    (Instr.fieldAt t (.pointer (some ⟨b, off, none⟩)) f).run P w = .ok (.pointer (some ⟨b, off + fd.offset, none⟩)) w := by
  have hsz : (sizeOf fd.type).run P w = .ok i.size w := by simp [sizeOf, typeInfo, hi]
  simp [Instr.fieldAt, run_underlying hu, hf, Instr.sureAddr, fieldPlace, Addr.add_lit, hsz, h0]

theorem rep_ptr_off {m : Mem} {k b ver r off d : Nat} {i : Info} {v : Value} {x : Blk} (hr : Rep m k (.ptr b ver r off) v) (hi : m.blk b = some i) (hv : i.virt = false) (he : i.e = x.e) :
    Rep m k (.ptr b ver r (off + d)) (.pointer (some ⟨i.g, r * x.e + off + d, none⟩)) := by
  obtain ⟨i', h1, h2, h3, h4, h5⟩ := ptr_inv hr
  rw [hi] at h2
  cases h2
  exact .ptr h1 hi h3 rfl (fun _ _ => by rw [he, Nat.add_assoc])

theorem rep_cptr_off {m : Mem} {k : Nat} {cells : List PV} {b off d : Nat} (h6 : ∀ j p, cells[j]? = some p → ∃ u, m.cell b (off + j) = some u ∧ Rep m 0 p u) : Rep m k (.cptr (cells.drop d)) (.pointer (some ⟨b, off + d, none⟩)) := by
  refine .cptr (vals := fun j => (m.cell b (off + d + j)).getD undef) (fun j p hj => ?_) (fun j p hj => ?_)
  all_goals
    rw [List.getElem?_drop] at hj
    obtain ⟨u, hu, hr⟩ := h6 _ p hj
    rw [← Nat.add_assoc] at hu
  · simp [hu]
  · simpa [hu] using hr

theorem pur_faddr {t : TypeId} {x : Operand} {f : Nat} (h : o.op = .fieldAddr t x f) : PurSound P call own o := by
  intro ao B k m w sl bl BL a p ns next Q hd he hl hin hn
  simp only [digOp, h] at hd
  split at hd
  · rename_i fs ax hu hx
    have rx := opd (a := a) (m := m) (k := k) (sl := sl) hx (fun t ht => hl t (by simp [h, Op.operands, ht]))
    split at hd
    · rename_i fd hf
      split at hd
      · rename_i i hi
        split at hd
        · cases hd
        · rename_i h0
          cases hd
          simp only [evPur] at he
          split at he
          · rename_i b ver r off hp
            split at he
            · rename_i bx hgb
              split at he
              · rename_i row hrow
                cases he
                rw [hp] at rx
                obtain ⟨inf, h1, h2, h3, h4, h5⟩ := ptr_read hin rx hgb hrow
                exact wp_of_run (by simp only [execOp, h, h4]; exact run_value (run_fieldAt hu hf hi h0)) (hn _ _ _ _ (PurOut.same hin.frz hin.own (rep_ptr_off rx h1 h3 h2.e)))
              · cases he
            · cases he
          · rename_i cells hp
            cases he
            rw [hp] at rx
            obtain ⟨b, off, h5, h6⟩ := cptr_inv rx
            exact wp_of_run (by simp only [execOp, h, h5]; exact run_value (run_fieldAt hu hf hi h0)) (hn _ _ _ _ (PurOut.same hin.frz hin.own (rep_cptr_off h6)))
          · cases he
      · cases hd
    · cases hd
  · cases hd

theorem pur_iaddr {t : TypeId} {x y : Operand} (h : o.op = .indexAddr t x y) : PurSound P call own o := by
  intro ao B k m w sl bl BL a p ns next Q hd he hl hin hn
  simp only [digOp, h] at hd
  split at hd
  · rename_i e ax ay hu hx hy
    split at hd
    · rename_i ti hi
      cases hd
      have rx := opd (a := a) (m := m) (k := k) (sl := sl) hx (fun t ht => hl t (by simp [h, Op.operands, ht]))
      have ry := opd (a := a) (m := m) (k := k) (sl := sl) hy (fun t ht => hl t (by simp [h, Op.operands, ht]))
      have hsz : (sizeOf e).run P w = .ok ti.size w := by simp [sizeOf, typeInfo, hi]
      simp only [evPur] at he
      split at he
      · rename_i j i hj
        split at he
        · rename_i h0
          rw [hj] at ry
          have ey := int_inv ry
          have run : ∀ (b off len cap : Nat), a.eval x = .slice (some ⟨b, off, none⟩) len cap → i.toNat < len → (execOp a.eval o).run P w = .ok (.value (.pointer (some ⟨b, off + i.toNat * ti.size, none⟩))) w := by
            intro b off len cap hxv hlt
            have hlt' : 0 ≤ i ∧ i < (len : Int) := ⟨h0, by omega⟩
            simp [execOp, h, hxv, ey, Instr.indexAt, asIntOf, run_underlying hu, hlt', hsz, Addr.add_lit]
          split at he
          · rename_i ex e' rows hp
            split at he
            · rename_i hee
              split at he
              · rename_i row hrow
                cases he
                rw [hp] at rx
                obtain ⟨base, cap, e1, e2, e3, e4, e5⟩ := sl_inv rx
                rcases e5 with e5 | ⟨b, off, rfl, e6, e7⟩
                · subst e5; simp at hrow
                · have hlt := (List.getElem?_eq_some_iff.1 hrow).1
                  subst hee
                  exact wp_of_run (run _ _ _ _ e1 hlt) (hn _ _ _ _ (PurOut.same hin.frz hin.own (by
                    have := rep_cptr_off (m := m) (k := k) (cells := row) (b := b) (off := off + i.toNat * ti.size) (d := 0) (fun j p hj => e7 _ row j p hrow hj)
                    simpa using this)))
              · cases he
            · cases he
          · rename_i b ver lo len hp
            split at he
            · rename_i bx hgb
              split at he
              · rename_i hlt
                cases he
                rw [hp] at rx
                obtain ⟨inf, h1, h2, h3, h4, h5⟩ := own_inv rx
                obtain ⟨hat, hver⟩ := blk_of hin hgb h2
                rcases h5 hver with ⟨hz, hz2, _⟩ | ⟨hv, cap, h6, h7, h8, h9⟩
                · omega
                · have hee : inf.e = ti.size := hat.e.trans hlt.2.2
                  refine wp_of_run (run _ _ _ _ h6 hlt.1) (hn _ _ _ _ (PurOut.same hin.frz hin.own (.ptr h1 h2 h3 rfl (fun _ _ => ?_))))
                  rw [hee, Nat.add_mul]; rfl
              · cases he
            · cases he
          · cases he
        · cases he
      · cases he
    · cases hd
  · rename_i n e ax ay hu hx hy
    split at hd
    · rename_i ti hi
      cases hd
      have rx := opd (a := a) (m := m) (k := k) (sl := sl) hx (fun t ht => hl t (by simp [h, Op.operands, ht]))
      have ry := opd (a := a) (m := m) (k := k) (sl := sl) hy (fun t ht => hl t (by simp [h, Op.operands, ht]))
      have hsz : (sizeOf e).run P w = .ok ti.size w := by simp [sizeOf, typeInfo, hi]
      simp only [evPur] at he
      split at he
      · rename_i j i hj
        split at he
        · rename_i h0
          rw [hj] at ry
          have ey := int_inv ry
          split at he
          · rename_i hlt
            have run : ∀ (b off : Nat), a.eval x = .pointer (some ⟨b, off, none⟩) → (execOp a.eval o).run P w = .ok (.value (.pointer (some ⟨b, off + i.toNat * ti.size, none⟩))) w := by
              intro b off hxv
              have hlt' : 0 ≤ i ∧ i < (n : Int) := ⟨h0, by omega⟩
              simp [execOp, h, hxv, ey, Instr.indexAt, Instr.sureAddr, asIntOf, run_underlying hu, hlt', hsz, Addr.add_lit]
            split at he
            · rename_i b ver r off hp
              split at he
              · rename_i bx hgb
                split at he
                · rename_i hce
                  split at he
                  · rename_i row hrow
                    cases he
                    rw [hp] at rx
                    obtain ⟨inf, h1, h2, h3, h4, h5⟩ := ptr_inv rx
                    obtain ⟨hat, hver⟩ := blk_of hin hgb h2
                    have hvirt : inf.virt = false := by
                      rcases hat.mem with ⟨_, hr⟩ | ⟨hv, _⟩
                      · rw [hr] at hrow; simp at hrow
                      · exact hv
                    have hv := h5 hver hvirt
                    have hie : inf.e = ti.size := hat.e.trans hce.1
                    refine wp_of_run (run _ _ hv) (hn _ _ _ _ (PurOut.same hin.frz hin.own (.ptr h1 h2 h3 rfl (fun _ _ => ?_))))
                    rw [hie, hce.2, Nat.add_mul]
                    simp
                  · cases he
                · split at he
                  · rename_i row hrow
                    cases he
                    rw [hp] at rx
                    obtain ⟨inf, h1, h2, h3, h4, h5⟩ := ptr_read hin rx hgb hrow
                    exact wp_of_run (run _ _ h4) (hn _ _ _ _ (PurOut.same hin.frz hin.own (rep_ptr_off rx h1 h3 h2.e)))
                  · cases he
              · cases he
            · rename_i cells hp
              cases he
              rw [hp] at rx
              obtain ⟨b, off, h5, h6⟩ := cptr_inv rx
              exact wp_of_run (run _ _ h5) (hn _ _ _ _ (PurOut.same hin.frz hin.own (rep_cptr_off h6)))
            · cases he
          · cases he
        · cases he
      · cases he
    · cases hd
  · cases hd

end
end Go.Proofs.Ytlnaibkpmklkiaa
