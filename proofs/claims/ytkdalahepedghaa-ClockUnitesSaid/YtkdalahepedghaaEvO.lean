/- The operations that change a block: stores, appends, copies. -/
import Derived.Test.YtkdalahepedghaaEvN
namespace Go.Proofs.Ytkdalahepedghaa
open Go Go.RowKit
set_option linter.unusedSectionVars false
variable [Bs]
set_option linter.unusedVariables false
set_option linter.unusedSimpArgs false

theorem EffIn.pur {B k m w bl} (h : EffIn B k m w bl) : PurIn B k m w bl [] bl := ⟨h.frz, h.own, h.hB, fun j x hx => by simpa using hx, fun j hj => absurd hj (by simp)⟩

/-- one block has changed -/
theorem EffOut.putA {B k k' : Nat} {m : Mem} {w w' : World} {bl bl' : Blks} {id : Nat} {x' : Blk} {p : PV} {v : Value} (i' : Info) (hin : EffIn B k m w bl)
    (hid : bl'[id]? = some (some x')) (hoth : ∀ j, j ≠ id → bl'[j]? = bl[j]?) (hk : k ≤ k') (hlen : bl.length ≤ bl'.length)
    (hw : ∀ b, b < w.heap.size → (∀ x i, bl[id]? = some (some x) → m.blk id = some i → i.virt = false → b ≠ i.g) → w'.heap[b]? = w.heap[b]?)
    (hbel : Below B w w') (hver : ∀ i, id < k → m.blk id = some i → i' = i ∨ i.ver < i'.ver)
    (hat : At (m.addBlk id i') k' w' i' x') (hg : i'.virt = false → w.heap.size ≤ i'.g ∨ ∃ x i, bl[id]? = some (some x) ∧ m.blk id = some i ∧ i.virt = false ∧ i.g = i'.g)
    (hr : Rep (m.addBlk id i') k' p v) : EffOut B k m w bl bl' p v (m.addBlk id i') w' k' := by
  have hmle : MLe k m (m.addBlk id i') := ⟨fun _ _ _ h => h, fun b i hb hi => by
    by_cases e : b = id
    · subst e; exact ⟨i', Mem.addBlk_same _ _ _, hver i hb hi⟩
    · exact ⟨i, by simpa [Mem.addBlk, e] using hi, .inl rfl⟩⟩
  -- blocks of others are not touched
  have far : ∀ j y i, j ≠ id → bl[j]? = some (some y) → m.blk j = some i → i.virt = false → w'.heap[i.g]? = w.heap[i.g]? := by
    intro j y i hj hy hi hv
    refine hw _ ((hin.own.at_ j y i hy hi).lt hv) (fun x i0 hx hi0 hv0 hgg => ?_)
    exact hj (hin.own.inj j y i id x i0 hy hi hx hi0 hv hv0 hgg)
  have farc : ∀ b o u, m.cell b o = some u → w'.heap[b]? = w.heap[b]? := by
    intro b o u hu
    refine hw b (World.block_lt_of_cell? w ⟨b, o, none⟩ (hin.frz.1 b o u hu).1) (fun x i0 hx hi0 hv0 hgg => ?_)
    have := (hin.own.base id x i0 hx hi0 hv0).2 o
    rw [← hgg, hu] at this
    cases this
  have oth : ∀ j, j ≠ id → (m.addBlk id i').blk j = m.blk j := fun j hj => by simp [Mem.addBlk, hj]
  refine ⟨hr, hmle, hk, ⟨fun b o u hu => ?_, hin.frz.2.1, fun g ob hg => by
    obtain ⟨⟨u, hu⟩, h3⟩ := hin.frz.2.2 g ob hg
    exact ⟨⟨u, hu⟩, (farc g 0 u (hin.frz.2.1 g 0 u hu)).trans h3⟩⟩, ⟨fun j y i hy hi => ?_, fun j y i hy hi hv => ?_, fun j y i j2 y2 i2 hy hi hy2 hi2 hv hv2 hgg => ?_⟩, hbel, fun _ _ _ h => .inl h, hlen, fun j hj => ?_⟩
  · obtain ⟨h1, h2⟩ := hin.frz.1 b o u hu
    exact ⟨(World.cell?_of_block (w := w) (a := ⟨b, o, none⟩) (farc b o u hu)).trans h1, h2⟩
  · by_cases e : j = id
    · subst e
      rw [Mem.addBlk_same] at hi
      cases hi
      rw [hid] at hy
      cases hy
      exact hat
    · rw [oth j e] at hi
      rw [hoth j e] at hy
      exact (hin.own.at_ j y i hy hi).mono hmle hk (fun hv => far j y i e hy hi hv)
  · by_cases e : j = id
    · subst e
      rw [Mem.addBlk_same] at hi
      cases hi
      rcases hg hv with h | ⟨x, i0, hx, hi0, hv0, hgg⟩
      · exact ⟨Nat.le_trans hin.hB h, fun o => frz_none hin.frz o h⟩
      · rw [← hgg]; exact hin.own.base j x i0 hx hi0 hv0
    · rw [oth j e] at hi
      rw [hoth j e] at hy
      exact hin.own.base j y i hy hi hv
  · by_cases e : j = id
    · by_cases e2 : j2 = id
      · omega
      · exfalso
        subst e
        rw [Mem.addBlk_same] at hi
        cases hi
        rw [oth j2 e2] at hi2
        rw [hoth j2 e2] at hy2
        rcases hg hv with h | ⟨x, i0, hx, hi0, hv0, hgg0⟩
        · have := (hin.own.at_ j2 y2 i2 hy2 hi2).lt hv2; omega
        · exact e2 (hin.own.inj j2 y2 i2 j x i0 hy2 hi2 hx hi0 hv2 hv0 (by omega))
    · rw [oth j e] at hi
      rw [hoth j e] at hy
      by_cases e2 : j2 = id
      · exfalso
        subst e2
        rw [Mem.addBlk_same] at hi2
        cases hi2
        rcases hg hv2 with h | ⟨x, i0, hx, hi0, hv0, hgg0⟩
        · have := (hin.own.at_ j y i hy hi).lt hv; omega
        · exact e (hin.own.inj j y i j2 x i0 hy hi hx hi0 hv hv0 (by omega))
      · rw [oth j2 e2] at hi2
        rw [hoth j2 e2] at hy2
        exact hin.own.inj j y i j2 y2 i2 hy hi hy2 hi2 hv hv2 hgg
  · have hlt : id < bl'.length := (List.getElem?_eq_some_iff.1 hid).1
    rw [oth j (by omega)]
    exact hin.fresh j (by omega)

theorem EffOut.put {B k k' : Nat} {m : Mem} {w w' : World} {bl bl' : Blks} {id : Nat} {x' : Blk} {p : PV} {v : Value} (i' : Info) (hin : EffIn B k m w bl)
    (hid : bl'[id]? = some (some x')) (hoth : ∀ j, j ≠ id → bl'[j]? = bl[j]?) (hk : k ≤ k') (hlen : bl.length ≤ bl'.length)
    (hw : ∀ b, b < w.heap.size → (∀ x i, bl[id]? = some (some x) → m.blk id = some i → i.virt = false → b ≠ i.g) → w'.heap[b]? = w.heap[b]?)
    (hbel : Below B w w') (hver : ∀ i, id < k → m.blk id = some i → i' = i ∨ i.ver < i'.ver)
    (hat : BlkAt (m.addBlk id i') k' w' i' x') (hg : i'.virt = false → w.heap.size ≤ i'.g ∨ ∃ x i, bl[id]? = some (some x) ∧ m.blk id = some i ∧ i.virt = false ∧ i.g = i'.g)
    (hr : Rep (m.addBlk id i') k' p v) : EffOut B k m w bl bl' p v (m.addBlk id i') w' k' :=
  EffOut.putA i' hin hid hoth hk hlen hw hbel hver (.inl hat) hg hr

def EffSound (P : Program) (call : Cl) (own : List Nat) (o : Oper) : Prop :=
  ∀ (ao : AOp) (B k : Nat) (m : Mem) (w : World) (sl : List PV) (bl bl' : Blks) (a : Act) (p : PV) (next : Act → World → Prop) (Q : Exit → Act → World → Prop),
    digOp P own o = some ao → evEff call sl bl ao = some (p, bl') → (∀ t, .tmp t ∈ o.op.operands → Rep m k (sl.getD t .top) (a.tmps.getD t undef)) →
    EffIn B k m w bl → (∀ v m' w' k', EffOut B k m w bl bl' p v m' w' k' → next (a.put o.dst v) w') → o.wp P a w next Q

section
variable {P : Program} {call : Cl} {own : List Nat} {o : Oper}

/-- some cells of a block overwritten -/
theorem rows_over {m : Mem} {k e : Nat} {rows : List (List PV)} {cur : Array Value} {r off : Nat} {row q : List PV} {vs : List Value} (h : RowsIn m k e rows cur) (hrow : rows[r]? = some row) (hl : ∀ r ∈ rows, r.length = e)
    (hle : off + q.length ≤ row.length) (hq : q.length = vs.length) (hv : ∀ (j : Nat) (p : PV), q[j]? = some p → ∃ u, vs[j]? = some u ∧ u.oneCell' = true ∧ Rep m k p u) (hsz : r * e + off + vs.length ≤ cur.size) :
    RowsIn m k e (rows.set r (row.take off ++ q ++ row.drop (off + q.length))) (cur.toList.take (r * e + off) ++ vs ++ cur.toList.drop (r * e + off + vs.length)).toArray := by
  have hre : row.length = e := hl row (List.mem_of_getElem? hrow)
  have hrlt : r < rows.length := (List.getElem?_eq_some_iff.1 hrow).1
  have get : ∀ t : Nat, (cur.toList.take (r * e + off) ++ vs ++ cur.toList.drop (r * e + off + vs.length)).toArray[t]? = if t < r * e + off then cur[t]? else if t < r * e + off + vs.length then vs[t - (r * e + off)]? else cur[t]? := by
    intro t
    rw [List.getElem?_toArray]
    have h1 : (cur.toList.take (r * e + off)).length = r * e + off := by simp; omega
    by_cases c1 : t < r * e + off
    · rw [if_pos c1, List.append_assoc, List.getElem?_append_left (by omega), List.getElem?_take_of_lt c1]; simp
    · rw [if_neg c1]
      by_cases c2 : t < r * e + off + vs.length
      · rw [if_pos c2, List.append_assoc, List.getElem?_append_right (by omega), List.getElem?_append_left (by omega), h1]
      · rw [if_neg c2, List.getElem?_append_right (by simp; omega)]
        simp only [List.length_append, h1, List.getElem?_drop]
        rw [show r * e + off + vs.length + (t - (r * e + off + vs.length)) = t by omega]
        simp
  intro r' row' j p hr' hj
  rw [get]
  by_cases er : r' = r
  · subst er
    rw [List.getElem?_set_self hrlt] at hr'
    cases hr'
    have h1 : (row.take off).length = off := by simp; omega
    by_cases c1 : j < off
    · rw [if_pos (by omega)]
      rw [List.append_assoc, List.getElem?_append_left (by omega), List.getElem?_take_of_lt c1] at hj
      exact h r' row j p hrow hj
    · rw [if_neg (by omega)]
      by_cases c2 : j < off + q.length
      · rw [if_pos (by omega)]
        rw [List.append_assoc, List.getElem?_append_right (by omega), List.getElem?_append_left (by omega), h1] at hj
        rw [show r' * e + j - (r' * e + off) = j - off by omega]
        exact hv _ p hj
      · rw [if_neg (by omega)]
        rw [List.getElem?_append_right (by simp; omega)] at hj
        simp only [List.length_append, h1, List.getElem?_drop] at hj
        rw [show off + q.length + (j - (off + q.length)) = j by omega] at hj
        exact h r' row j p hrow hj
  · rw [List.getElem?_set_ne (fun e => er e.symm)] at hr'
    have hj' : j < e := by rw [← hl row' (List.mem_of_getElem? hr')]; exact (List.getElem?_eq_some_iff.1 hj).1
    have hb := h r' row' j p hr' hj
    rcases Nat.lt_or_gt_of_ne er with c | c
    · have : (r' + 1) * e ≤ r * e := Nat.mul_le_mul_right _ (by omega)
      rw [Nat.add_mul] at this
      rw [if_pos (by omega)]
      exact hb
    · have : (r + 1) * e ≤ r' * e := Nat.mul_le_mul_right _ (by omega)
      rw [Nat.add_mul] at this
      rw [if_neg (by omega), if_neg (by omega)]
      exact hb

theorem below_setRow {B : Nat} {w : World} {g : Nat} (cs : Array Value) (h : B ≤ g) : Below B w (w.setRow g cs) :=
  ⟨rfl, rfl, rfl, by simp [World.setRow], fun k hk => setRow_other w g k cs (by omega)⟩

theorem eff_store {t : TypeId} {x y : Operand} (h : o.op = .store t x y) : EffSound P call own o := by
  intro ao B k m w sl bl bl' a p next Q hd he hl hin hn
  simp only [digOp, h] at hd
  split at hd
  · rename_i ax ay i hx hy hi
    cases hd
    have rx := opd (a := a) (m := m) (k := k) (sl := sl) hx (fun t ht => hl t (by simp [h, Op.operands, ht]))
    have ry := opd (a := a) (m := m) (k := k) (sl := sl) hy (fun t ht => hl t (by simp [h, Op.operands, ht]))
    simp only [evEff] at he
    split at he
    · rename_i b ver r off hp
      split at he
      · rename_i bx hgb
        split at he
        · rename_i row hrow
          split at he
          · rename_i hc
            cases he
            obtain ⟨c1, c2, c3⟩ := hc
            rw [hp] at rx
            obtain ⟨inf, g1, g2, g3, g4, g5⟩ := ptr_read hin.pur rx hgb hrow
            obtain ⟨hbl, hverb⟩ := getB_spec hgb
            obtain ⟨q1, q2⟩ := cells_rep ry c3
            rcases g2.mem with ⟨hv', _⟩ | ⟨_, cur, ty, m1, m2, m3, m4, m5⟩
            · rw [g3] at hv'; cases hv'
            · have hrl : row.length = bx.e := g2.rowl row (List.mem_of_getElem? hrow)
              have hr1 : r < bx.rows.length := (List.getElem?_eq_some_iff.1 hrow).1
              have hvl : (a.eval y).cells.toList.length = i.size := by rw [Array.length_toList, q1, c1]
              have hsz : r * bx.e + off + (a.eval y).cells.toList.length ≤ cur.size := by
                rw [hvl, m2]
                have h1 : (r + 1) * bx.e ≤ inf.cap * bx.e := Nat.mul_le_mul_right _ (by have := g2.n; omega)
                rw [Nat.add_mul] at h1
                rw [g2.e]
                omega
              have hone : ∀ v ∈ (a.eval y).cells.toList, v.oneCell' = true := by
                intro v hv
                obtain ⟨j, hj⟩ := List.getElem?_of_mem hv
                have hj' : j < (ay.ev sl).cells.length := by rw [← q1]; simpa using (List.getElem?_eq_some_iff.1 hj).1
                obtain ⟨u, e1, e2, _⟩ := q2 j _ (List.getElem?_eq_getElem hj')
                rw [Array.getElem?_toList] at hj
                rw [hj] at e1
                cases e1
                exact e2
              have hst := run_storeCells_at P inf.g (r * bx.e + off) ty (a.eval y).cells.toList 0 cur w m1 (by simpa using hsz) hone
              simp only [Nat.add_zero] at hst
              have hszr : (sizeOf t).run P w = .ok i.size w := by simp [sizeOf, typeInfo, hi]
              have hcsz : (a.eval y).cells.size = i.size := by rw [q1, c1]
              refine wp_of_skip (w' := w.setRow inf.g (cur.toList.take (r * bx.e + off) ++ (a.eval y).cells.toList ++ cur.toList.drop (r * bx.e + off + (a.eval y).cells.toList.length)).toArray) ?_ (hn _ (m.addBlk b inf) _ k (EffOut.put (x' := ⟨bx.ver, bx.e, bx.flat && PV.lt.ltL 0 (ay.ev sl).cells, bx.rows.set r (row.take off ++ (ay.ev sl).cells ++ row.drop (off + i.size))⟩) inf hin (by rw [List.getElem?_set_self (List.getElem?_eq_some_iff.1 hbl).1]) (fun j hj => by rw [List.getElem?_set_ne (fun e => hj e.symm)]) (Nat.le_refl _) (by simp) (fun b' _ hb' => setRow_other _ _ _ _ (hb' bx inf hbl g1 g3)) (below_setRow _ (hin.own.base b bx inf hbl g1 g3).1) (fun i' _ hi' => .inl (by rw [g1] at hi'; cases hi'; rfl)) ⟨g2.ver, g2.e, ?_, ?_, .inr ⟨g3, _, ty, setRow_heap w _ cur _ ty _ m1, ?_, m3, m4, ?_⟩, g2.ne⟩ (fun _ => .inr ⟨bx, inf, hbl, g1, g3, rfl⟩) .top))
              · simp only [execOp, h, g4]
                simp only [Instr.storeAt, Instr.sureAddr, storeVar, Sem.run_bind, Sem.run_pure, Result.andThen_ok, hszr, hcsz]
                simp [hst]
              · simp [g2.n]
              · intro r' hr'
                rcases List.mem_or_eq_of_mem_set hr' with hr' | hr'
                · exact g2.rowl r' hr'
                · subst hr'
                  simp
                  omega
              · simp only [List.size_toArray, List.length_append, List.length_take, List.length_drop, Array.length_toList]
                rw [← m2]
                simp only [Array.length_toList] at hsz
                omega
              · have hm' : MLe 0 m (m.addBlk b inf) := ⟨fun _ _ _ h => h, fun _ _ hb => absurd hb (by omega)⟩
                have hmk : MLe k m (m.addBlk b inf) := ⟨fun _ _ _ h => h, fun b' i' hb hi' => by
                  by_cases e : b' = b
                  · subst e; rw [g1] at hi'; cases hi'; exact ⟨_, Mem.addBlk_same _ _ _, .inl rfl⟩
                  · exact ⟨i', by simpa [Mem.addBlk, e] using hi', .inl rfl⟩⟩
                have hql : (ay.ev sl).cells.length = (a.eval y).cells.toList.length := by rw [hvl, c1]
                have := fun kk (hk : RowsIn m kk bx.e bx.rows cur) (hv : ∀ (j : Nat) (p : PV), (ay.ev sl).cells[j]? = some p → ∃ u, (a.eval y).cells.toList[j]? = some u ∧ u.oneCell' = true ∧ Rep m kk p u) => rows_over (q := (ay.ev sl).cells) hk hrow g2.rowl (by rw [c1]; exact c2) hql hv hsz
                rw [c1] at this
                cases hfl : bx.flat && PV.lt.ltL 0 (ay.ev sl).cells
                · simp only [Bool.false_eq_true, if_false]
                  refine (this k ?_ (fun j p hj => by simpa using q2 j p hj)).mono hmk (Nat.le_refl _)
                  split at m5
                  · exact m5.mono (MLe.refl _ _) (Nat.zero_le _)
                  · exact m5
                · simp only [Bool.and_eq_true] at hfl
                  simp only [if_true]
                  refine (this 0 ?_ (fun j p hj => by
                    obtain ⟨u, e1, e2, e3⟩ := q2 j p hj
                    exact ⟨u, by simpa using e1, e2, e3.down (ltL_all hfl.2 j p hj)⟩)).mono hm' (Nat.le_refl _)
                  rw [hfl.1] at m5
                  exact m5
          · cases he
        · cases he
      · cases he
    · cases he
  · cases hd

end
end Go.Proofs.Ytkdalahepedghaa
