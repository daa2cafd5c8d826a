/- The operations that change no block: slices made. -/
import Derived.Test.YtlnaibkpmklkiaaEvJ
namespace Go.Proofs.Ytlnaibkpmklkiaa
open Go Go.RowKit
set_option linter.unusedSectionVars false
variable [Bs]
set_option linter.unusedVariables false
set_option linter.unusedSimpArgs false

section
variable {P : Program} {call : Cl} {own : List Nat} {o : Oper}

theorem flat_rep {α : Type} (z : List α) : ∀ (n t : Nat), t < n * z.length → (List.replicate n z).flatten[t]? = z[t % z.length]?
  | 0, t, h => by simp at h
  | n + 1, t, h => by
    rw [List.replicate_succ, List.flatten_cons]
    by_cases ht : t < z.length
    · rw [List.getElem?_append_left ht, Nat.mod_eq_of_lt ht]
    · rw [List.getElem?_append_right (by omega), flat_rep z n _ (by rw [Nat.add_mul] at h; omega)]
      congr 1
      exact (Nat.mod_eq_sub_mod (by omega)).symm

theorem flat_len {α : Type} (z : List α) (n : Nat) : (List.replicate n z).flatten.length = n * z.length := by
  induction n with
  | zero => simp
  | succ n ih => rw [List.replicate_succ, List.flatten_cons, List.length_append, ih, Nat.add_mul]; omega

/-- cells that repeat a zero value -/
def repCells (zv : Value) (n : Nat) : Array Value := (Array.range n).map fun i => zv.cells[i % zv.cells.size]!

theorem map0 (f : Nat → Value) : (Array.range 0).map f = #[] := by simp

theorem repCells_get {zv : Value} {n t : Nat} (h : t < n) (hz : 0 < zv.cells.size) : (repCells zv n)[t]? = zv.cells[t % zv.cells.size]? := by
  have hlt : t % zv.cells.size < zv.cells.size := Nat.mod_lt _ hz
  simp [repCells, h, hlt]

theorem rep_rc {m : Mem} {k : Nat} {zv : Value} {n : Nat} (hz : 0 < zv.cells.size) (hleaf : (zv.cells.toList.map ofVal).all PV.leaf = true) :
    RC m k ((List.replicate n (zv.cells.toList.map ofVal)).flatten) (repCells zv (n * zv.cells.size)) := by
  refine ⟨by rw [flat_len]; simp [repCells], fun j p hj => ?_⟩
  have hlt : j < n * zv.cells.size := by
    have := (List.getElem?_eq_some_iff.1 hj).1
    rw [flat_len] at this
    simpa using this
  rw [flat_rep _ _ _ (by simpa using hlt)] at hj
  rw [repCells_get hlt hz]
  obtain ⟨v, h1, h2, h3⟩ := zero_cells (m := m) hleaf hj
  exact ⟨v, by simpa using h1, h2, h3.up (Nat.zero_le _)⟩

theorem chunks_get (e : Nat) : ∀ (n r : Nat) (cs : List PV), r < n → (evPur.chunks e n cs)[r]? = some ((cs.drop (r * e)).take e)
  | 0, r, cs, h => by omega
  | n + 1, 0, cs, h => by simp [evPur.chunks]
  | n + 1, r + 1, cs, h => by
    simp only [evPur.chunks, List.getElem?_cons_succ]
    rw [chunks_get e n r _ (by omega), List.drop_drop]
    congr 3
    rw [Nat.add_mul]; omega
theorem chunks_len (e : Nat) : ∀ (n : Nat) (cs : List PV), (evPur.chunks e n cs).length = n
  | 0, _ => rfl
  | n + 1, cs => by simp [evPur.chunks, chunks_len e n]
theorem chunks_row {e n : Nat} {cs : List PV} (h : cs.length = n * e) : ∀ r ∈ evPur.chunks e n cs, r.length = e := by
  intro r hr
  obtain ⟨i, hi⟩ := List.getElem?_of_mem hr
  have hlt : i < n := by have := (List.getElem?_eq_some_iff.1 hi).1; rwa [chunks_len] at this
  rw [chunks_get e n i cs hlt] at hi
  cases hi
  simp only [List.length_take, List.length_drop]
  have : (i + 1) * e ≤ n * e := Nat.mul_le_mul_right e (by omega)
  rw [Nat.add_mul] at this
  omega
theorem chunks_cell {e n : Nat} {cs : List PV} {r j : Nat} {row : List PV} {p : PV} (h1 : (evPur.chunks e n cs)[r]? = some row) (h2 : row[j]? = some p) : cs[r * e + j]? = some p := by
  have hlt : r < n := by have := (List.getElem?_eq_some_iff.1 h1).1; rwa [chunks_len] at this
  rw [chunks_get e n r cs hlt] at h1
  cases h1
  rw [List.getElem?_take] at h2
  split at h2
  · rwa [List.getElem?_drop] at h2
  · cases h2

theorem fillP_len : ∀ (pp : List (Nat × Nat × PV)) (cs cs' : List PV), fillP cs pp = some cs' → cs'.length = cs.length
  | [], cs, cs', h => by simp [fillP] at h; rw [h]
  | (off, n, p) :: r, cs, cs', h => by
    simp only [fillP] at h
    split at h
    · rename_i hc
      rw [fillP_len r _ _ h]
      simp
      omega
    · cases h

theorem elemP_spec {t : TypeId} {x : TypeId × TypeInfo} (h : elemP P t = some x) : P.underlying t = some (.slice x.1) ∧ P.info? x.1 = some x.2 := by
  unfold elemP at h
  split at h
  · split at h
    · split at h
      · cases h; exact ⟨by assumption, by assumption⟩
      · cases h
    · cases h
  · cases h

theorem rc_oneCell {m : Mem} {k : Nat} {cs : List PV} {cells : Array Value} (h : RC m k cs cells) (j : Nat) (v : Value) (hv : cells[j]? = some v) : v.oneCell' = true := by
  have hlt : j < cs.length := by rw [h.1]; exact (Array.getElem?_eq_some_iff.1 hv).1
  obtain ⟨u, h1, h2, _⟩ := h.2 j _ (List.getElem?_eq_getElem hlt)
  rw [hv] at h1
  cases h1
  exact h2

theorem pur_bslice {t : TypeId} {n : Nat} {ps : Array (Nat × Operand)} (h : o.op = .buildSlice t n ps) : PurSound P call own o := by
  intro ao B k m w sl bl BL a p ns next Q hd he hl hin hn
  simp only [digOp, h] at hd
  have hop : ∀ t, Operand.tmp t ∈ ps.toList.map (·.2) → Rep m k (sl.getD t .top) (a.tmps.getD t undef) := fun t ht => hl t (by rw [h]; simp only [Op.operands]; simpa using ht)
  have hpl : (ps.map fun (i, x) => (i, a.eval x)).toList = ps.toList.map fun x => (x.1, a.eval x.2) := by simp
  split at hd
  · rename_i e i hel
    have hne := elemP_ne hel
    obtain ⟨hu, hi⟩ := elemP_spec hel
    simp only at hu hi
    split at hd
    · rename_i z aa hz hp
      split at hd
      · rename_i hc
        cases hd
        simp only [evPur] at he
        split at he
        · rename_i cs hf
          split at he
          · rename_i hleafc
            obtain ⟨i', zv, hi', hzv, rfl, hsz, hleaf, hlt⟩ := zeroP_spec hz
            rw [hi] at hi'
            cases hi'
            have hzp : 0 < zv.cells.size := by omega
            obtain ⟨e1, e2⟩ := digEls_spec (m := m) (k := k) (sl := sl) (a := a) ps.toList aa hp hop
            have hszr : ∀ w : World, (sizeOf e).run P w = .ok i.size w := fun w => by simp [sizeOf, typeInfo, hi]
            have hcl : cs.length = n * i.size := by rw [fillP_len _ _ _ hf, flat_len]; simp [hsz]
            obtain ⟨cells', f1, f2⟩ := fill_rep (m := m) (k := k) (place := fun j => some (j * i.size, i.size)) (ps.toList.map fun x => (x.1, a.eval x.2)) _ (repCells zv (n * i.size)) _ cs (by simp [e1]) (fun j x y hx hy => by
              simp only [List.getElem?_map, Option.map_eq_some_iff] at hx hy
              obtain ⟨x0, hx0, rfl⟩ := hx
              obtain ⟨y0, hy0, rfl⟩ := hy
              obtain ⟨g1, g2⟩ := e2 j x0 y0 hx0 hy0
              exact ⟨by simp [g1], g2⟩) (by rw [← hsz]; exact rep_rc hzp hleaf) hf
            have hrun : (execOp a.eval o).run P w = .ok (.value (.slice (some ⟨w.heap.size, 0, none⟩) n n)) (w.alloc (.cells cells' e)) := by
              simp only [execOp, h]
              refine run_value ?_
              simp only [Instr.buildSlice, Sem.run_bind, run_underlying hu, Result.andThen_ok, hszr, hpl]
              rw [if_neg (by omega)]
              by_cases hz0 : n * i.size = 0
              · have hfill := f1
                rw [hz0, show repCells zv 0 = #[] from map0 _] at hfill
                simp only [hz0, if_true, Sem.run_bind, Sem.run_pure, Result.andThen_ok, map0, hfill]
                simp [newRow]
              · simp only [hz0, if_false, Sem.run_bind, zeroValue, typeInfo, run_program, Result.andThen_ok, hi, Sem.run_pure, hzv]
                have : ((Array.range (n * i.size)).map fun (j : Nat) => zv.cells[j % zv.cells.size]!) = repCells zv (n * i.size) := rfl
                rw [this, f1]
                simp [newRow]
            have hcsz : cells'.size = n * i.size := by rw [← f2.1, hcl]
            have hnm : n ≤ 16777216 := Nat.le_trans (Nat.le_mul_of_pos_right n hc.2) hc.1
            split at he
            · cases he
              obtain ⟨h1, h3⟩ := hin.one
              refine wp_of_run hrun (hn _ _ _ _ (PurOut.new ⟨w.heap.size, n, i.size, n, n, false⟩ hin.frz hin.own hin.hB h1 h3 ((Below.refl _ _).alloc (Nat.le_refl _) _) ⟨rfl, rfl, by simp [chunks_len], chunks_row hcl, .inr ⟨rfl, cells', e, heap_alloc_new w _, hcsz, Nat.le_refl _, by simp [maxLen]; omega, ?_⟩, hne⟩ (fun _ => Nat.le_refl _) ?_))
              · intro r row j q hr hj
                have hcell := chunks_cell hr hj
                obtain ⟨v, g1, g2, g3⟩ := f2.2 _ q hcell
                refine ⟨v, g1, g2, ?_⟩
                cases hlc : PV.lt.ltL 0 cs
                · simpa [hlc] using g3
                · simpa [hlc] using g3.down (ltL_all hlc _ q hcell)
              · exact .own (by omega) (Mem.addBlk_same _ _ _) (Nat.le_refl _) rfl (fun _ => .inr ⟨rfl, n, by simp, Nat.le_refl _, by simp, by simp⟩)
            · rename_i hlent
              cases he
              have hlc : PV.lt.ltL 0 cs = true := by
                cases hh : PV.lt.ltL 0 cs
                · exact absurd (by simp [hh]) hlent
                · rfl
              refine wp_of_run hrun (hn _ _ _ _ (PurOut.frozen (fun j => cells'[j]?) hin.frz hin.own hin.hB ((Below.refl _ _).alloc (Nat.le_refl _) _) (fun j v hv => ⟨by rw [World.cell?_alloc_new]; exact hv, rc_oneCell f2 j v hv⟩) ?_))
              have key : ∀ (r : Nat) (row : List PV) (j : Nat) (q : PV), (evPur.chunks i.size n cs)[r]? = some row → row[j]? = some q → ∃ v, cells'[r * i.size + j]? = some v ∧ Rep m 0 q v := fun r row j q hr hj => by
                have hcell := chunks_cell hr hj
                obtain ⟨v, g1, _, g3⟩ := f2.2 _ q hcell
                exact ⟨v, g1, g3.down (ltL_all hlc _ q hcell)⟩
              have hln : (evPur.chunks i.size n cs).length = n := chunks_len _ _ _
              have := Rep.sl (m := m.addFrz w.heap.size (fun j => cells'[j]?)) (k := k) (ex := true) (e := i.size) (rows := evPur.chunks i.size n cs) (b := w.heap.size) (off := 0) (cap := n)
                (vals := fun r j => (cells'[r * i.size + j]?).getD undef) (by rw [hln]; exact Nat.le_refl _) (by simp [maxLen]; omega) (fun _ => hln.symm) (chunks_row hcl)
                (fun r j row q hr hj => by
                  obtain ⟨v, g1, g2⟩ := key r row j q hr hj
                  simp [Mem.addFrz, g1])
                (fun r j row q hr hj => by
                  obtain ⟨v, g1, g2⟩ := key r row j q hr hj
                  simp only [g1, Option.getD_some]
                  exact g2.re (fun b o u hu => by
                    have : b ≠ w.heap.size := fun e => by subst e; rw [frz_none hin.frz o (Nat.le_refl _)] at hu; cases hu
                    simp [Mem.addFrz, this, hu]))
              rw [hln] at this
              exact this
          · cases he
        · cases he
      · cases hd
    · cases hd
  · cases hd

theorem pur_make {t : TypeId} {l c : Operand} (h : o.op = .makeSlice t l c) : PurSound P call own o := by
  intro ao B k m w sl bl BL a p ns next Q hd he hl hin hn
  simp only [digOp, h] at hd
  split at hd
  · rename_i e i al ac hel hl1 hc1
    have hne := elemP_ne hel
    obtain ⟨hu, hi⟩ := elemP_spec hel
    simp only at hu hi
    split at hd
    · rename_i z hz
      split at hd
      · rename_i hpos
        split at hd
        · cases hd
          have rl := opd (a := a) (m := m) (k := k) (sl := sl) hl1 (fun t ht => hl t (by simp [h, Op.operands, ht]))
          have rc := opd (a := a) (m := m) (k := k) (sl := sl) hc1 (fun t ht => hl t (by simp [h, Op.operands, ht]))
          simp only [evPur] at he
          split at he
          · rename_i j1 l' j2 c' hl2 hc2
            split at he
            · rename_i hc
              cases he
              rw [hl2] at rl
              rw [hc2] at rc
              have el := int_inv rl
              have ec := int_inv rc
              obtain ⟨i', zv, hi', hzv, rfl, hsz, hleaf, hlt⟩ := zeroP_spec hz
              rw [hi] at hi'
              cases hi'
              have hzp : 0 < zv.cells.size := by omega
              obtain ⟨c0, c1, c2, c3⟩ := hc
              have wl : IntKind.i64.wrap l' = l' := by unfold IntKind.wrap; simp only [IntKind.bits, IntKind.signed]; simp; omega
              have wc : IntKind.i64.wrap c' = c' := by unfold IntKind.wrap; simp only [IntKind.bits, IntKind.signed]; simp; omega
              have hby : (i.bytes : Int) * c' ≤ 140737488355328 := by rw [Int.mul_comm]; exact c3
              have hszr : ∀ w : World, (sizeOf e).run P w = .ok i.size w := fun w => by simp [sizeOf, typeInfo, hi]
              have hrun : (execOp a.eval o).run P w = .ok (.value (.slice (some ⟨w.heap.size, 0, none⟩) l'.toNat c'.toNat)) (w.alloc (.cells (repCells zv (c'.toNat * i.size)) e)) := by
                simp only [execOp, h, el, ec]
                refine run_value ?_
                have hb1 : (decide (c' < 0) || decide ((i.bytes : Int) * c' > 281474976710656)) = false := by simp; omega
                simp only [Instr.makeSlice, Sem.run_bind, run_underlying hu, Result.andThen_ok, asInt, asIntOf, typeInfo, run_program, hi, Sem.run_pure, wl, wc]
                have hb2 : (decide (c' < 0) || decide ((i.bytes : Int) * c' > 2 ^ 48)) = false := by simp; omega
                have hb3 : (decide (l' < 0) || decide (l' > c')) = false := by simp; omega
                rw [if_neg (by rw [hb2]; simp; omega)]
                simp only [Sem.run_bind, run_askRoom, Result.andThen_ok, hszr]
                by_cases hz0 : c'.toNat * i.size = 0
                · simp only [hz0, if_true, Sem.run_bind, Sem.run_pure, Result.andThen_ok, map0, show repCells zv 0 = #[] from map0 _]
                  simp [newRow]
                · simp only [hz0, if_false, Sem.run_bind, zeroValue, typeInfo, run_program, Result.andThen_ok, hi, Sem.run_pure, hzv]
                  have : ((Array.range (c'.toNat * i.size)).map fun (j : Nat) => zv.cells[j % zv.cells.size]!) = repCells zv (c'.toNat * i.size) := rfl
                  rw [this]
                  simp [newRow]
              obtain ⟨h1, h3⟩ := hin.one
              have hzl : (zv.cells.toList.map ofVal).length = zv.cells.size := by simp
              refine wp_of_run hrun (hn _ _ _ _ (PurOut.new ⟨w.heap.size, l'.toNat, i.size, l'.toNat, c'.toNat, false⟩ hin.frz hin.own hin.hB h1 h3 ((Below.refl _ _).alloc (Nat.le_refl _) _) ⟨rfl, rfl, by simp, fun r hr => by rw [List.eq_of_mem_replicate hr, hzl, hsz], .inr ⟨rfl, _, e, heap_alloc_new w _, by simp [repCells], by simp; omega, by simp [maxLen]; omega, ?_⟩, hne⟩ (fun _ => Nat.le_refl _) ?_))
              · rw [hlt]
                intro r row j q hr hj
                have hr' := (List.getElem?_eq_some_iff.1 hr).1
                simp at hr'
                have hrow : row = zv.cells.toList.map ofVal := List.eq_of_mem_replicate (List.mem_of_getElem? hr)
                subst hrow
                have hj' := (List.getElem?_eq_some_iff.1 hj).1
                rw [hzl] at hj'
                have hin2 : r * i.size + j < c'.toNat * i.size := by
                  have : (r + 1) * i.size ≤ c'.toNat * i.size := Nat.mul_le_mul_right _ (by omega)
                  rw [Nat.add_mul] at this
                  omega
                rw [repCells_get hin2 hzp, hsz, Nat.mul_comm, Nat.mul_add_mod, Nat.mod_eq_of_lt (by omega)]
                exact zero_cells hleaf hj
              · exact .own (by omega) (Mem.addBlk_same _ _ _) (Nat.le_refl _) rfl (fun _ => .inr ⟨rfl, c'.toNat, by simp, by omega, by simp; omega, by simp⟩)
            · cases he
          · cases he
        · cases hd
          have rl := opd (a := a) (m := m) (k := k) (sl := sl) hl1 (fun t ht => hl t (by simp [h, Op.operands, ht]))
          have rc := opd (a := a) (m := m) (k := k) (sl := sl) hc1 (fun t ht => hl t (by simp [h, Op.operands, ht]))
          simp only [evPur] at he
          split at he
          · rename_i j1 l' j2 c' hl2 hc2
            split at he
            · rename_i hc
              cases he
              rw [hl2] at rl
              rw [hc2] at rc
              have el := int_inv rl
              have ec := int_inv rc
              obtain ⟨i', zv, hi', hzv, rfl, hsz, hleaf, hlt⟩ := zeroP_spec hz
              rw [hi] at hi'
              cases hi'
              have hzp : 0 < zv.cells.size := by omega
              obtain ⟨c0, c1', c2, c3⟩ := hc
              have c1 : l' ≤ c' := Int.le_of_eq c1'
              have wl : IntKind.i64.wrap l' = l' := by unfold IntKind.wrap; simp only [IntKind.bits, IntKind.signed]; simp; omega
              have wc : IntKind.i64.wrap c' = c' := by unfold IntKind.wrap; simp only [IntKind.bits, IntKind.signed]; simp; omega
              have hby : (i.bytes : Int) * c' ≤ 140737488355328 := by rw [Int.mul_comm]; exact c3
              have hszr : ∀ w : World, (sizeOf e).run P w = .ok i.size w := fun w => by simp [sizeOf, typeInfo, hi]
              have hrun : (execOp a.eval o).run P w = .ok (.value (.slice (some ⟨w.heap.size, 0, none⟩) l'.toNat c'.toNat)) (w.alloc (.cells (repCells zv (c'.toNat * i.size)) e)) := by
                simp only [execOp, h, el, ec]
                refine run_value ?_
                have hb1 : (decide (c' < 0) || decide ((i.bytes : Int) * c' > 281474976710656)) = false := by simp; omega
                simp only [Instr.makeSlice, Sem.run_bind, run_underlying hu, Result.andThen_ok, asInt, asIntOf, typeInfo, run_program, hi, Sem.run_pure, wl, wc]
                have hb2 : (decide (c' < 0) || decide ((i.bytes : Int) * c' > 2 ^ 48)) = false := by simp; omega
                have hb3 : (decide (l' < 0) || decide (l' > c')) = false := by simp; omega
                rw [if_neg (by rw [hb2]; simp; omega)]
                simp only [Sem.run_bind, run_askRoom, Result.andThen_ok, hszr]
                by_cases hz0 : c'.toNat * i.size = 0
                · simp only [hz0, if_true, Sem.run_bind, Sem.run_pure, Result.andThen_ok, map0, show repCells zv 0 = #[] from map0 _]
                  simp [newRow]
                · simp only [hz0, if_false, Sem.run_bind, zeroValue, typeInfo, run_program, Result.andThen_ok, hi, Sem.run_pure, hzv]
                  have : ((Array.range (c'.toNat * i.size)).map fun (j : Nat) => zv.cells[j % zv.cells.size]!) = repCells zv (c'.toNat * i.size) := rfl
                  rw [this]
                  simp [newRow]
              have hzl : (zv.cells.toList.map ofVal).length = i.size := by simp [hsz]
              subst c1'
              obtain ⟨q, rfl⟩ : ∃ q : Nat, l' = q := ⟨l'.toNat, by omega⟩
              simp only [Int.toNat_natCast] at hrun ⊢
              refine wp_of_run hrun (hn _ _ _ _ (PurOut.frozen (fun j => (repCells zv (q * i.size))[j]?) hin.frz hin.own hin.hB ((Below.refl _ _).alloc (Nat.le_refl _) _) (fun j v hv => ⟨by rw [World.cell?_alloc_new]; exact hv, ?_⟩) ?_))
              · have hjl : j < q * i.size := by have := (Array.getElem?_eq_some_iff.1 hv).1; simpa [repCells] using this
                rw [repCells_get hjl hzp] at hv
                obtain ⟨v', g1, g2, _⟩ := zero_cells (m := m) (j := j % zv.cells.size) (p := ofVal v) hleaf (by simp only [List.getElem?_map, Array.getElem?_toList, hv]; rfl)
                rw [hv] at g1
                cases g1
                exact g2
              · have key : ∀ (r : Nat) (row : List PV) (j : Nat) (p : PV), (List.replicate q (zv.cells.toList.map ofVal))[r]? = some row → row[j]? = some p → ∃ v, (repCells zv (q * i.size))[r * i.size + j]? = some v ∧ Rep m 0 p v := fun r row j p hr hj => by
                  have hr' := (List.getElem?_eq_some_iff.1 hr).1
                  simp at hr'
                  have hrow : row = zv.cells.toList.map ofVal := List.eq_of_mem_replicate (List.mem_of_getElem? hr)
                  subst hrow
                  have hj' := (List.getElem?_eq_some_iff.1 hj).1
                  rw [hzl] at hj'
                  have hin2 : r * i.size + j < q * i.size := by
                    have : (r + 1) * i.size ≤ q * i.size := Nat.mul_le_mul_right _ (by omega)
                    rw [Nat.add_mul] at this
                    omega
                  obtain ⟨v, g1, _, g3⟩ := zero_cells (m := m) hleaf hj
                  exact ⟨v, by rw [repCells_get hin2 hzp, hsz, Nat.mul_comm, Nat.mul_add_mod, Nat.mod_eq_of_lt (by omega)]; exact g1, g3⟩
                have hln : (List.replicate q (zv.cells.toList.map ofVal)).length = q := by simp
                have := Rep.sl (m := m.addFrz w.heap.size (fun j => (repCells zv (q * i.size))[j]?)) (k := k) (ex := true) (e := i.size) (rows := List.replicate q (zv.cells.toList.map ofVal)) (b := w.heap.size) (off := 0) (cap := q)
                  (vals := fun r j => ((repCells zv (q * i.size))[r * i.size + j]?).getD undef) (by rw [hln]; exact Nat.le_refl _) (by simp [maxLen]; omega) (fun _ => hln.symm) (fun r hr => by rw [List.eq_of_mem_replicate hr, hzl])
                  (fun r j row p hr hj => by
                    obtain ⟨v, g1, g2⟩ := key r row j p hr hj
                    simp [Mem.addFrz, g1])
                  (fun r j row p hr hj => by
                    obtain ⟨v, g1, g2⟩ := key r row j p hr hj
                    simp only [g1, Option.getD_some]
                    exact g2.re (fun b o u hu => by
                      have : b ≠ w.heap.size := fun e => by subst e; rw [frz_none hin.frz o (Nat.le_refl _)] at hu; cases hu
                      simp [Mem.addFrz, this, hu]))
                rw [hln] at this
                exact this
            · cases he
          · cases he
      · cases hd
    · cases hd
  · cases hd

theorem pur_alloc {t : TypeId} (h : o.op = .alloc t) : PurSound P call own o := by
  intro ao B k m w sl bl BL a p ns next Q hd he hl hin hn
  simp only [digOp, h] at hd
  split at hd
  · rename_i z hz
    have hne := zeroP_ne hz
    have main : ao = .alloc z → o.wp P a w next Q := by
      rintro rfl
      simp [evPur] at he
      obtain ⟨rfl, rfl⟩ := he
      obtain ⟨i, zv, hi, hzv, rfl, hsz, hleaf, hlt⟩ := zeroP_spec hz
      obtain ⟨h1, h3⟩ := hin.one
      have hrun : (execOp a.eval o).run P w = .ok (.value (.pointer (some ⟨w.heap.size, 0, none⟩))) (w.alloc (.cells zv.cells t)) := by
        simp [execOp, h, Instr.alloc, zeroValue, typeInfo, hi, hzv, newVar, newRow]
      refine wp_of_run hrun (hn _ _ _ _ (PurOut.new ⟨w.heap.size, 1, (zv.cells.toList.map ofVal).length, 1, 1, false⟩ hin.frz hin.own hin.hB h1 h3 ((Below.refl _ _).alloc (Nat.le_refl _) _) ⟨rfl, rfl, rfl, by simp, .inr ⟨rfl, zv.cells, t, heap_alloc_new w _, by simp, Nat.le_refl _, by simp [maxLen], ?_⟩, hne⟩ (fun _ => Nat.le_refl _) ?_))
      · rw [hlt]
        exact rowsIn_one (fun j p hj => zero_cells hleaf hj)
      · exact .ptr (by omega) (Mem.addBlk_same _ _ _) (Nat.le_refl _) rfl (fun _ _ => by simp)
    have arr : digArr P t z = some ao → o.wp P a w next Q := by
      intro hA
      unfold digArr at hA
      split at hA
      · rename_i n e hu
        split at hA
        · rename_i i hi
          split at hA
          · rename_i hc
            obtain ⟨c1, c2, c3, c4, c5⟩ := hc
            cases hA
            simp only [evPur] at he
            cases he
            obtain ⟨i', zv, hi', hzv, rfl, hsz, hleaf, hlt⟩ := zeroP_spec hz
            obtain ⟨h1, h3⟩ := hin.one
            have hrun : (execOp a.eval o).run P w = .ok (.value (.pointer (some ⟨w.heap.size, 0, none⟩))) (w.alloc (.cells zv.cells t)) := by
              simp [execOp, h, Instr.alloc, zeroValue, typeInfo, hi', hzv, newVar, newRow]
            refine wp_of_run hrun (hn _ _ _ _ (PurOut.new ⟨w.heap.size, n, i.size, n, n, false⟩ hin.frz hin.own hin.hB h1 h3 ((Below.refl _ _).alloc (Nat.le_refl _) _) ⟨rfl, rfl, (chunks_len _ _ _).symm, chunks_row c3, .inr ⟨rfl, zv.cells, t, heap_alloc_new w _, by simpa using c3, Nat.le_refl _, by simp [maxLen]; omega, ?_⟩, by simp only [mapE]; omega⟩ (fun _ => Nat.le_refl _) ?_))
            · rw [hlt]
              intro r row j q hr hj
              exact zero_cells hleaf (chunks_cell hr hj)
            · exact .ptr (by omega) (Mem.addBlk_same _ _ _) (Nat.le_refl _) rfl (fun _ _ => by simp)
          · cases hA
        · cases hA
      · cases hA
    split at hd
    · split at hd
      · rename_i a' ha'
        cases hd
        exact arr ha'
      · cases hd
        exact main rfl
    · cases hd
      exact main rfl
  · cases hd

theorem run_appz {w : World} {t u ty e : TypeId} {ik j : IntKind} {i : TypeInfo} {z : Value} {n : Int} {ad : Option Addr} (ht : P.underlying t = some (.slice e)) (hu : P.underlying u = some (.int ik)) (hi : P.info? e = some i) (hzv : i.zero = some z) (hs : 0 < i.size) (h0 : 0 < n) (h1 : n ≤ 140737488355328) (h2 : n * i.bytes ≤ 140737488355328) :
    ∃ cap, n.toNat ≤ cap ∧ cap ≤ maxLen ∧ (Builtin.append_ #[t, u] ty #[.slice ad 0 0, .int j n]).run P w =
      .ok (.slice (some ⟨w.heap.size, 0, none⟩) n.toNat cap) (w.drew.alloc (.cells (Builtin.zeroCells z.cells n.toNat ++ Builtin.zeroCells z.cells (cap - n.toNat)) e)) := by
  obtain ⟨q, rfl⟩ : ∃ q : Nat, n = q := ⟨n.toNat, by omega⟩
  simp only [Int.toNat_natCast]
  have wl : IntKind.i64.wrap (q : Int) = q := by unfold IntKind.wrap; simp only [IntKind.bits, IntKind.signed]; simp; omega
  have h2' : q * i.bytes ≤ 140737488355328 := by
    have : ((q * i.bytes : Nat) : Int) ≤ 140737488355328 := by rw [Int.natCast_mul]; exact h2
    omega
  have g1 : ¬ ((q : Int) < 0) := by omega
  have g2 : ¬ (281474976710656 < (q : Int) * i.bytes) := by omega
  have g3 : ¬ (9223372036854775807 < (q : Int)) := by omega
  have g4 : ¬ q = 0 := by omega
  have g5 : ¬ i.size = 0 := by omega
  have h48 := growslice_fits (need := q) (old := 0) (by omega) h2'
  have h48' : ¬ (281474976710656 < Builtin.nextslicecap q 0 * i.bytes) := by omega
  refine ⟨grownCap w q 0 e, grownCap_ge _ _ _ _, grownCap_le_maxLen _ _ _ _ (by simp [maxLen]; omega), ?_⟩
  have hf : ∀ w', (Builtin.firstCells i.size 0 (.slice ad 0 0)).run P w' = .ok #[] w' := fun w' => by cases ad <;> simp [Builtin.firstCells, loadCells, loadCellsFrom]
  simp [Builtin.append_, run_underlying ht, run_underlying hu, sizeOf, typeInfo, zeroValue, hi, hzv, asInt, asIntOf, wl, g1, g2, g3, g4, g5, h48', Question.forced, hf, newRow, grownCap]
  intro hq
  rcases Nat.mul_eq_zero.1 hq with hq | hq <;> omega

theorem pur_appz {c : Call} (h : o.op = .call c) (hcal : c.callee = .builtin .append) : PurSound P call own o := by
  intro ao B k m w sl bl BL a p ns next Q hd he hl hin hn
  simp only [digOp, h, hcal] at hd
  split at hd
  · rename_i args ha
    obtain ⟨g1, g2⟩ := opds (m := m) (k := k) (sl := sl) (a := a) c.args.toList args (fun t ht => hl t (call_ops hcal h t ht)) ha
    have hex := exec_builtin (a := a) hcal h
    generalize (c.args.map fun | .const _ => true | _ => false) = consts at hex
    have key : ∃ s x t u, args = [s, x] ∧ c.argTypes.toList = [t, u] := by
      generalize c.argTypes.toList = tys at hd
      rcases args with _ | ⟨s, _ | ⟨x, _ | ⟨y, r⟩⟩⟩ <;> rcases tys with _ | ⟨t, _ | ⟨u, _ | ⟨v, q⟩⟩⟩ <;> first
        | exact ⟨_, _, _, _, rfl, rfl⟩
        | (simp [digBuiltin] at hd; done)
    obtain ⟨s, x, t, u, rfl, hty⟩ := key
    rw [hty] at hd
    simp only [digBuiltin] at hd
    split at hd
    · rename_i e i hel
      have hne := elemP_ne hel
      obtain ⟨hu, hi⟩ := elemP_spec hel
      simp only at hu hi
      split at hd
      · rename_i z hz
        split at hd
        · rename_i hc0
          split at hd
          · cases hd; simp [evPur] at he
          · cases hd; simp [evPur] at he
          · rename_i ik huu
            split at hd
            · rename_i zp hzp
              cases hd
              have hlen : c.args.toList.length = 2 := by simpa using g1.symm
              obtain ⟨o1, o2, hoo⟩ : ∃ o1 o2, c.args.toList = [o1, o2] := by
                cases hq : c.args.toList with
                | nil => rw [hq] at hlen; simp at hlen
                | cons o1 r => cases r with
                  | nil => rw [hq] at hlen; simp at hlen
                  | cons o2 r => cases r with
                    | nil => exact ⟨o1, o2, rfl⟩
                    | cons o3 r => rw [hq] at hlen; simp at hlen
              have hargs : c.args = #[o1, o2] := by rw [← Array.toArray_toList (xs := c.args), hoo]
              have htys : c.argTypes = #[t, u] := by rw [← Array.toArray_toList (xs := c.argTypes), hty]
              have rs : Rep m k (s.ev sl) (a.eval o1) := by have := g2 0 (s.ev sl) rfl; rw [hoo] at this; simpa using this
              have rx : Rep m k (x.ev sl) (a.eval o2) := by have := g2 1 (x.ev sl) rfl; rw [hoo] at this; simpa using this
              rw [hargs, htys] at hex
              simp only [evPur] at he
              split at he
              · rename_i j n hs hx
                split at he
                · rename_i hc
                  cases he
                  rw [hs] at rs
                  rw [hx] at rx
                  obtain ⟨ad, e1⟩ := nilS_inv rs
                  have e2 := int_inv rx
                  obtain ⟨i', zv, hi', hzv, rfl, hsz, hleaf, hlt⟩ := zeroP_spec hzp
                  rw [hi] at hi'
                  cases hi'
                  obtain ⟨c0, c1, c2⟩ := hc
                  obtain ⟨cap, q1, q2, q3⟩ := run_appz (w := w) (ty := o.type) (ad := ad) (j := j) hu huu hi hzv hc0.2 c0 c1 c2
                  have hrun : (execOp a.eval o).run P w = .ok (.value (.slice (some ⟨w.heap.size, 0, none⟩) n.toNat cap)) (w.drew.alloc (.cells (Builtin.zeroCells zv.cells n.toNat ++ Builtin.zeroCells zv.cells (cap - n.toNat)) e)) := by
                    rw [hex]
                    simp [builtin, e1, e2, q3]
                  obtain ⟨h1, h3⟩ := hin.one
                  have hzl : (zv.cells.toList.map ofVal).length = zv.cells.size := by simp
                  have hzp : 0 < zv.cells.size := by omega
                  have hsz1 : ∀ q : Nat, (Builtin.zeroCells zv.cells q).size = q * i.size := fun q => by rw [size_zeroCells, hsz]
                  refine wp_of_run hrun (hn _ _ _ _ (PurOut.new ⟨w.heap.size, n.toNat, i.size, n.toNat, cap, false⟩ hin.frz hin.own hin.hB h1 h3 (((Below.refl _ _).drew).alloc (Nat.le_refl _) _) ⟨rfl, rfl, by simp, fun r hr => by rw [List.eq_of_mem_replicate hr, hzl, hsz], .inr ⟨rfl, _, e, heap_alloc_new w.drew _, by show _ = cap * i.size; rw [Array.size_append, hsz1, hsz1, ← Nat.add_mul]; congr 1; omega, q1, q2, ?_⟩, hne⟩ (fun _ => Nat.le_refl _) ?_))
                  · rw [hlt]
                    intro r row j' q hr hj
                    have hr' := (List.getElem?_eq_some_iff.1 hr).1
                    simp at hr'
                    have hrow : row = zv.cells.toList.map ofVal := List.eq_of_mem_replicate (List.mem_of_getElem? hr)
                    subst hrow
                    have hj' := (List.getElem?_eq_some_iff.1 hj).1
                    rw [hzl] at hj'
                    have hin2 : r * i.size + j' < n.toNat * i.size := by
                      have : (r + 1) * i.size ≤ n.toNat * i.size := Nat.mul_le_mul_right _ (by omega)
                      rw [Nat.add_mul] at this
                      omega
                    have e4 : Builtin.zeroCells zv.cells n.toNat = repCells zv (n.toNat * i.size) := by rw [← hsz]; rfl
                    rw [Array.getElem?_append_left (by rw [hsz1]; exact hin2), e4, repCells_get hin2 hzp, hsz, Nat.mul_comm, Nat.mul_add_mod, Nat.mod_eq_of_lt (by omega)]
                    exact zero_cells hleaf hj
                  · exact .own (by omega) (Mem.addBlk_same _ _ _) (Nat.le_refl _) rfl (fun _ => .inr ⟨rfl, cap, by simp, q1, by simp; omega, by simp⟩)
                · cases he
              · cases he
            · cases hd
          · cases hd
        · cases hd
      · cases hd
    · cases hd
  · cases hd

end
end Go.Proofs.Ytlnaibkpmklkiaa
