/- The operations that change no block: those that make memory. -/
import Derived.Test.YtlnaibkpmklkiaaEvH
namespace Go.Proofs.Ytlnaibkpmklkiaa
open Go Go.RowKit
set_option linter.unusedSectionVars false
variable [Bs]
set_option linter.unusedVariables false
set_option linter.unusedSimpArgs false

section
variable {P : Program} {call : Cl} {own : List Nat} {o : Oper}

/-- the rows that a slice reads as -/
theorem rows_read {B k : Nat} {m : Mem} {w : World} {bl BL : Blks} {ns : List Blk} (hin : PurIn B k m w bl ns BL) {e : Nat} {p : PV} {rows : List (List PV)} {v : Value} (h : rowsOf e bl p = some rows) (hr : Rep m k p v) :
    ∃ base cap, v = .slice base rows.length cap ∧ (∀ r ∈ rows, r.length = e) ∧ (rows = [] ∨ ∃ b off, base = some ⟨b, off, none⟩ ∧
      ∀ (i : Nat) (row : List PV) (j : Nat) (q : PV), rows[i]? = some row → row[j]? = some q → ∃ u, w.cell? ⟨b, off + i * e + j, none⟩ = some u ∧ u.oneCell' = true ∧ Rep m k q u) := by
  unfold rowsOf at h
  split at h
  · split at h
    · rename_i hee
      cases h
      obtain ⟨base, cap, e1, _, _, _, e5⟩ := sl_inv hr
      subst hee
      rcases e5 with rfl | ⟨b, off, rfl, e6, e7⟩
      · exact ⟨_, _, e1, by simp, .inl rfl⟩
      · exact ⟨_, _, e1, e6, .inr ⟨b, off, rfl, fun i row j q hi hj => by
          obtain ⟨u, hu, hrep⟩ := e7 i row j q hi hj
          exact ⟨u, (hin.frz.1 _ _ _ hu).1, (hin.frz.1 _ _ _ hu).2, hrep.up (Nat.zero_le _)⟩⟩⟩
    · cases h
  · cases h
    obtain ⟨a, e1⟩ := nilS_inv hr
    exact ⟨_, _, e1, by simp, .inl rfl⟩
  · rename_i b ver lo len
    split at h
    · rename_i x hgb
      split at h
      · rename_i hc
        cases h
        obtain ⟨inf, g1, g2, g3, g4, g5⟩ := own_inv hr
        obtain ⟨hat, hver⟩ := blk_of hin hgb g2
        have hlen : ((x.rows.drop lo).take len).length = len := by simp; omega
        have hrl : ∀ r ∈ (x.rows.drop lo).take len, r.length = e := fun r hr => by rw [← hc.2]; exact hat.rowl r (List.mem_of_mem_drop (List.mem_of_mem_take hr))
        rcases g5 hver with ⟨hz, hz2, ad, e1⟩ | ⟨hv, cap, e1, f1, f2, f3⟩
        · refine ⟨ad, 0, by rw [hlen, e1, hz], hrl, .inl (List.eq_nil_of_length_eq_zero (by omega))⟩
        · rcases hat.mem with ⟨hv', _⟩ | ⟨_, cur, ty, m1, m2, m3, m4, m5⟩
          · rw [hv] at hv'; cases hv'
          · refine ⟨_, cap, by rw [hlen]; exact e1, hrl, .inr ⟨_, _, rfl, fun i row j q hi hj => ?_⟩⟩
            rw [List.getElem?_take] at hi
            split at hi
            · rw [List.getElem?_drop] at hi
              obtain ⟨u, hu, h1, hrep⟩ := m5 _ row j q hi hj
              refine ⟨u, ?_, h1, ?_⟩
              · have : lo * inf.e + i * e + j = (lo + i) * x.e + j := by rw [hat.e, hc.2, Nat.add_mul]
                rw [this]
                simpa [World.cell?, m1] using hu
              · split at hrep
                · exact hrep.up (Nat.zero_le _)
                · exact hrep
            · cases hi
      · cases h
    · cases h
  · cases h

theorem bytesOfRows_spec : ∀ {rows : List (List PV)} {bs : List UInt8}, bytesOfRows rows = some bs → ∃ ns : List Int, rows = ns.map (fun n => [PV.int .u8 n]) ∧ bs = ns.map fun n => UInt8.ofNat n.toNat
  | [], bs, h => by simp [bytesOfRows] at h; subst h; exact ⟨[], rfl, rfl⟩
  | row :: r, bs, h => by
    unfold bytesOfRows at h
    split at h
    · rename_i heq; simp at heq
    · rename_i n r' heq
      simp at heq
      obtain ⟨h1, h2⟩ := heq
      subst h1 h2
      split at h
      · rename_i bs' hb
        cases h
        obtain ⟨ns, e1, e2⟩ := bytesOfRows_spec hb
        exact ⟨n :: ns, by simp [e1], by simp [e2]⟩
      · cases h
    · cases h

theorem pur_conv {s d : TypeId} {x : Operand} (h : o.op = .convert s d x) : PurSound P call own o := by
  intro ao B k m w sl bl BL a p ns next Q hd he hl hin hn
  simp only [digOp, h] at hd
  split at hd
  · rename_i j1 j2 ax hs hdd hx
    cases hd
    have rx := opd (a := a) (m := m) (k := k) (sl := sl) hx (fun t ht => hl t (by simp [h, Op.operands, ht]))
    simp only [evPur] at he
    split at he
    · rename_i k2 j3 n hk hv
      cases hk
      cases he
      rw [hv] at rx
      have e1 := int_inv rx
      exact wp_of_run (v := .int j2 (j2.wrap n)) (by simp [execOp, h, e1, convert, run_underlying hs, run_underlying hdd, Conv.intToInt]) (hn _ _ _ _ (PurOut.same hin.frz hin.own .int))
    · rename_i hk _; cases hk
    · rename_i hk; cases hk
    · cases he
  · rename_i ax hs hdd hx
    cases hd
    have rx := opd (a := a) (m := m) (k := k) (sl := sl) hx (fun t ht => hl t (by simp [h, Op.operands, ht]))
    simp only [evPur] at he
    split at he
    · rename_i hk _; cases hk
    · rename_i bs hk hv
      cases he
      have rx' := rx
      rw [hv] at rx'
      obtain ⟨s', e1, e2⟩ := str_inv rx'
      exact wp_of_run (v := a.eval x) (by simp [execOp, h, e1, convert, run_underlying hs, run_underlying hdd]) (hn _ _ _ _ (PurOut.same hin.frz hin.own rx'))
    · rename_i hk; cases hk
    · cases he
  · rename_i e ax hs hdd hx
    split at hd
    · rename_i hu8
      cases hd
      have rx := opd (a := a) (m := m) (k := k) (sl := sl) hx (fun t ht => hl t (by simp [h, Op.operands, ht]))
      simp only [evPur] at he
      split at he
      · rename_i rows hrows
        split at he
        · rename_i bs hbs
          cases he
          obtain ⟨xs, e1, e2⟩ := bytesOfRows_spec hbs
          obtain ⟨base, cap, f1, f2, f3⟩ := rows_read hin hrows rx
          have hlen : rows.length = xs.length := by simp [e1]
          have hz : ∀ b off, base = some ⟨b, off, none⟩ → (∀ i, i < rows.length → w.cell? ⟨b, off + i, none⟩ = some (.int .u8 (xs.getD i 0))) → (convert s d (a.eval x)).run P w = .ok (.string (strOfNums xs)) w := by
            intro b off hb hc
            rw [f1, hb]
            exact run_convert_bytes_arg w s e hs hu8 b off rows.length cap xs hlen.symm hc d hdd
          have hrun : (convert s d (a.eval x)).run P w = .ok (.string (strOfNums xs)) w := by
            rcases f3 with f3 | ⟨b, off, rfl, f4⟩
            · have hx0 : xs = [] := List.eq_nil_of_length_eq_zero (by rw [← hlen, f3]; rfl)
              subst hx0
              rw [f1, run_convert_bytes_string w s d e _ _ _ hs hu8 hdd, hlen, List.length_nil]
              cases base with
              | none => simp [Conv.bytesToString, strOfNums]; rfl
              | some ad => rw [run_bytesToString w ad 0 cap [] (by simp [loadCells, loadCellsFrom])]; rfl
            · refine hz b off rfl (fun i hi => ?_)
              have hi' : i < xs.length := by omega
              have h1 : rows[i]? = some [PV.int .u8 xs[i]] := by rw [e1]; simp [List.getElem?_eq_getElem hi']
              obtain ⟨u, g1, g2, g3⟩ := f4 i _ 0 _ h1 rfl
              have := int_inv g3
              subst this
              rw [List.getD_eq_getElem?_getD, List.getElem?_eq_getElem hi']
              simpa using g1
          refine wp_of_run (v := .string (strOfNums xs)) (by simp [execOp, h, hrun]) (hn _ _ _ _ (PurOut.same hin.frz hin.own ?_))
          have e3 : bs = (strOfNums xs).data.toList := by rw [e2]; rfl
          rw [e3]
          exact .str
        · cases he
      · cases he
    · cases hd
  · cases hd

theorem zeroP_spec {t : TypeId} {z : List PV} (h : zeroP P t = some z) : ∃ i zv, P.info? t = some i ∧ i.zero = some zv ∧ z = zv.cells.toList.map ofVal ∧ zv.cells.size = i.size ∧ z.all PV.leaf = true ∧ PV.lt.ltL 0 z = true := by
  unfold zeroP at h
  split at h
  · rename_i i hi
    split at h
    · rename_i zv hz
      split at h
      · rename_i hc
        cases h
        exact ⟨i, zv, hi, hz, rfl, hc.1, hc.2.1, hc.2.2.1⟩
      · cases h
    · cases h
  · cases h

theorem zeroP_ne {t : TypeId} {z : List PV} (h : zeroP P t = some z) : z.length < mapE := by
  unfold zeroP at h
  split at h
  · split at h
    · split at h
      · rename_i hc; cases h; simp only [mapE, List.length_map, Array.length_toList]; omega
      · cases h
    · cases h
  · cases h

theorem all_get {α : Type} {f : α → Bool} {l : List α} (h : l.all f = true) {i : Nat} {x : α} (hi : l[i]? = some x) : f x = true := by
  rw [List.all_eq_true] at h
  exact h x (List.mem_of_getElem? hi)

/-- one row of cells in a new block -/
theorem rowsIn_one {m : Mem} {k : Nat} {cs : List PV} {cur : Array Value} (hr : ∀ (j : Nat) (p : PV), cs[j]? = some p → ∃ v, cur[j]? = some v ∧ v.oneCell' = true ∧ Rep m k p v) : RowsIn m k cs.length [cs] cur := by
  intro r row j p h1 h2
  cases r with
  | zero => simp at h1; subst h1; simpa using hr j p h2
  | succ r => simp at h1

theorem zero_cells {m : Mem} {zv : Value} {j : Nat} {p : PV} (hall : (zv.cells.toList.map ofVal).all PV.leaf = true) (hj : (zv.cells.toList.map ofVal)[j]? = some p) : ∃ v, zv.cells[j]? = some v ∧ v.oneCell' = true ∧ Rep m 0 p v := by
  have hl := all_get hall hj
  simp only [List.getElem?_map, Option.map_eq_some_iff] at hj
  obtain ⟨v, hv, rfl⟩ := hj
  exact ⟨v, by simpa using hv, leaf_one (rep_ofVal m v) hl, rep_ofVal m v⟩

/-- the cells of a value -/
theorem cells_rep {m : Mem} {k : Nat} {p : PV} {v : Value} (h : Rep m k p v) (hl : p.cells.all PV.leaf = true) : v.cells.size = p.cells.length ∧ ∀ (j : Nat) (q : PV), p.cells[j]? = some q → ∃ u, v.cells[j]? = some u ∧ u.oneCell' = true ∧ Rep m k q u := by
  have single : p.cells = [p] → v.cells.size = p.cells.length ∧ ∀ (j : Nat) (q : PV), p.cells[j]? = some q → ∃ u, v.cells[j]? = some u ∧ u.oneCell' = true ∧ Rep m k q u := by
    intro hp
    rw [hp] at hl
    simp at hl
    have h1 := leaf_one h hl
    have hc : v.cells = #[v] := by cases v <;> first | rfl | (simp [Value.oneCell'] at h1; done)
    rw [hp, hc]
    refine ⟨rfl, fun j q hj => ?_⟩
    cases j with
    | zero => simp at hj; subst hj; exact ⟨v, rfl, h1, h⟩
    | succ j => simp at hj
  cases p with
  | agg cs =>
    obtain ⟨vs, rfl, h2, h3⟩ := agg_inv h
    simp only [PV.cells] at hl ⊢
    refine ⟨h2.symm, fun j q hj => ?_⟩
    have hlt : j < vs.size := by rw [← h2]; exact (List.getElem?_eq_some_iff.1 hj).1
    have h4 := h3 j q hj
    rw [Array.getD_eq_getD_getElem?, Array.getElem?_eq_getElem hlt] at h4
    exact ⟨vs[j], by simp [Value.cells, hlt], leaf_one h4 (all_get hl hj), h4⟩
  | _ => exact single rfl

theorem pur_box {t : TypeId} {x : Operand} (h : o.op = .box t x) : PurSound P call own o := by
  intro ao B k m w sl bl BL a p ns next Q hd he hl hin hn
  simp only [digOp, h] at hd
  split at hd
  · rename_i ax hx
    cases hd
    have rx := opd (a := a) (m := m) (k := k) (sl := sl) hx (fun t ht => hl t (by simp [h, Op.operands, ht]))
    simp only [evPur] at he
    split at he
    · rename_i hleaf
      obtain ⟨hleaf, hne⟩ := hleaf
      cases he
      obtain ⟨h1, h3⟩ := hin.one
      obtain ⟨c1, c2⟩ := cells_rep rx hleaf
      have hrun : (execOp a.eval o).run P w = .ok (.value (.pointer (some ⟨w.heap.size, 0, none⟩))) (w.alloc (.cells (a.eval x).cells t)) := by
        simp [execOp, h, Instr.box, newVar, newRow]
      refine wp_of_run hrun (hn _ _ _ _ (PurOut.new ⟨w.heap.size, 1, (ax.ev sl).cells.length, 1, 1, false⟩ hin.frz hin.own hin.hB h1 h3 ((Below.refl _ _).alloc (Nat.le_refl _) _) ⟨rfl, rfl, rfl, by simp, .inr ⟨rfl, (a.eval x).cells, t, heap_alloc_new w _, by simp [c1], Nat.le_refl _, by simp [maxLen], ?_⟩, hne⟩ (fun _ => Nat.le_refl _) ?_))
      · refine rowsIn_one (fun j q hj => ?_)
        obtain ⟨u, hu, h1, hrep⟩ := c2 j q hj
        refine ⟨u, hu, h1, ?_⟩
        split
        · rename_i hlt; exact hrep.down (ltL_all hlt j q hj)
        · exact hrep
      · exact .ptr (by omega) (Mem.addBlk_same _ _ _) (Nat.le_refl _) rfl (fun _ _ => by simp)
    · cases he
  · cases hd

end
end Go.Proofs.Ytlnaibkpmklkiaa
