/- Appends and copies, as operations. -/
import Derived.Test.YtlnaibkpmklkiaaEvR
import Derived.Test.YtlnaibkpmklkiaaEvOm
namespace Go.Proofs.Ytlnaibkpmklkiaa
open Go Go.RowKit
set_option linter.unusedSectionVars false
variable [Bs]
set_option linter.unusedVariables false
set_option linter.unusedSimpArgs false

section
variable {P : Program} {call : Cl} {own : List Nat} {o : Oper}

structure NewsR (m : Mem) (k : Nat) (e : Nat) (news : List (List PV)) (cs : List Value) : Prop where
  len : cs.length = news.length * e
  one : ∀ u ∈ cs, u.oneCell' = true
  rep : ∀ (i : Nat) (row : List PV) (j : Nat) (q : PV), news[i]? = some row → row[j]? = some q → ∃ u, cs[i * e + j]? = some u ∧ Rep m k q u
theorem News.r {m : Mem} {k : Nat} {w : World} {e : Nat} {news : List (List PV)} {x : Value} {cs : List Value} (h : News P m k w e news x cs) : NewsR m k e news cs := ⟨h.len, h.one, h.rep⟩
theorem News.take {m : Mem} {k : Nat} {w : World} {e : Nat} {news : List (List PV)} {x : Value} {cs : List Value} (h : News P m k w e news x cs) (n : Nat) (hn : n ≤ news.length) : NewsR m k e (news.take n) (cs.take (n * e)) := by
  have h1 : n * e ≤ news.length * e := Nat.mul_le_mul_right _ hn
  refine ⟨by simp; have := h.len; rw [this, Nat.min_eq_left h1, Nat.min_eq_left hn], fun u hu => h.one u (List.mem_of_mem_take hu), fun i row j q hi hj => ?_⟩
  rw [List.getElem?_take] at hi
  split at hi
  · rename_i hlt
    obtain ⟨u, h2, h3⟩ := h.rep i row j q hi hj
    refine ⟨u, ?_, h3⟩
    have hj' : j < e := by rw [← h.rowl row (List.mem_of_getElem? hi)]; exact (List.getElem?_eq_some_iff.1 hj).1
    have : (i + 1) * e ≤ n * e := Nat.mul_le_mul_right _ (by omega)
    rw [Nat.add_mul] at this
    rw [List.getElem?_take_of_lt (by omega)]
    exact h2
  · cases hi

/-- rows put in the place of others, or behind them -/
theorem rows_splice {m m' : Mem} {k k' e a : Nat} {fl : Bool} {rows news : List (List PV)} {cur cur' : Array Value} {cs : List Value} (hR : RowsIn m (if fl then 0 else k) e rows cur) (hN : NewsR m k e news cs)
    (hm : MLe k m m') (hk : k ≤ k') (ha : a ≤ rows.length) (hrl : ∀ r ∈ rows, r.length = e)
    (g1 : ∀ t : Nat, t < a * e → cur'[t]? = cur[t]?) (g2 : ∀ s : Nat, s < cs.length → cur'[a * e + s]? = cs[s]?) (g3 : ∀ t : Nat, a * e + cs.length ≤ t → t < rows.length * e → cur'[t]? = cur[t]?) :
    RowsIn m' (if (fl && news.all (PV.lt.ltL 0)) then 0 else k') e (rows.take a ++ news ++ rows.drop (a + news.length)) cur' := by
  have fromOld : ∀ (r : Nat) (row : List PV) (j : Nat) (p : PV), rows[r]? = some row → row[j]? = some p → cur'[r * e + j]? = cur[r * e + j]? → ∃ v, cur'[r * e + j]? = some v ∧ v.oneCell' = true ∧ Rep m' (if (fl && news.all (PV.lt.ltL 0)) then 0 else k') p v := by
    intro r row j p hr hj hc
    obtain ⟨v, h1, h2, h3⟩ := hR r row j p hr hj
    refine ⟨v, hc.trans h1, h2, ?_⟩
    cases fl
    · simp only [Bool.false_and, Bool.false_eq_true, if_false] at h3 ⊢
      exact (h3.mono hm).up hk
    · simp only [Bool.true_and, if_true] at h3 ⊢
      exact (h3.mono (hm.le (Nat.zero_le _))).up (Nat.zero_le _)
  intro r row j p hr hj
  have hlenA : (rows.take a).length = a := by simp; omega
  by_cases c1 : r < a
  · rw [List.append_assoc, List.getElem?_append_left (by omega), List.getElem?_take_of_lt c1] at hr
    have hj' : j < e := by rw [← hrl row (List.mem_of_getElem? hr)]; exact (List.getElem?_eq_some_iff.1 hj).1
    have : (r + 1) * e ≤ a * e := Nat.mul_le_mul_right _ (by omega)
    rw [Nat.add_mul] at this
    exact fromOld r row j p hr hj (g1 _ (by omega))
  · by_cases c2 : r < a + news.length
    · rw [List.append_assoc, List.getElem?_append_right (by omega), List.getElem?_append_left (by omega), hlenA] at hr
      obtain ⟨u, h1, h2⟩ := hN.rep _ row j p hr hj
      have hs : (r - a) * e + j < cs.length := (List.getElem?_eq_some_iff.1 h1).1
      have hidx : r * e + j = a * e + ((r - a) * e + j) := by
        have : r * e = (a + (r - a)) * e := by congr 1; omega
        rw [this, Nat.add_mul]; omega
      refine ⟨u, by rw [hidx, g2 _ hs]; exact h1, hN.one u (List.mem_of_getElem? h1), ?_⟩
      cases hfl : fl && news.all (PV.lt.ltL 0)
      · simp only [Bool.false_eq_true, if_false]
        exact (h2.mono hm).up hk
      · simp only [Bool.and_eq_true] at hfl
        simp only [if_true]
        exact (h2.down (ltL_all (all_get hfl.2 hr) j p hj)).mono (hm.le (Nat.zero_le _))
    · rw [List.getElem?_append_right (by simp; omega)] at hr
      simp only [List.length_append, hlenA, List.getElem?_drop] at hr
      rw [show a + news.length + (r - (a + news.length)) = r by omega] at hr
      have hrlt := (List.getElem?_eq_some_iff.1 hr).1
      have hj' : j < e := by rw [← hrl row (List.mem_of_getElem? hr)]; exact (List.getElem?_eq_some_iff.1 hj).1
      have h1 : (a + news.length) * e ≤ r * e := Nat.mul_le_mul_right _ (by omega)
      have h2 : (r + 1) * e ≤ rows.length * e := Nat.mul_le_mul_right _ (by omega)
      rw [Nat.add_mul] at h1 h2
      have h3 := hN.len
      exact fromOld r row j p hr hj (g3 _ (by omega) (by omega))

theorem splice_get {cur : Array Value} {cs : List Value} {a : Nat} (h : a + cs.length ≤ cur.size) (t : Nat) :
    (cur.toList.take a ++ cs ++ cur.toList.drop (a + cs.length)).toArray[t]? = if t < a then cur[t]? else if t < a + cs.length then cs[t - a]? else cur[t]? := by
  rw [List.getElem?_toArray]
  have h1 : (cur.toList.take a).length = a := by simp; omega
  by_cases c1 : t < a
  · rw [if_pos c1, List.append_assoc, List.getElem?_append_left (by omega), List.getElem?_take_of_lt c1]; simp
  · rw [if_neg c1]
    by_cases c2 : t < a + cs.length
    · rw [if_pos c2, List.append_assoc, List.getElem?_append_right (by omega), List.getElem?_append_left (by omega), h1]
    · rw [if_neg c2, List.getElem?_append_right (by simp; omega)]
      simp only [List.length_append, h1, List.getElem?_drop]
      rw [show a + cs.length + (t - (a + cs.length)) = t by omega]
      simp

theorem splice_size {cur : Array Value} {cs : List Value} {a : Nat} (h : a + cs.length ≤ cur.size) : (cur.toList.take a ++ cs ++ cur.toList.drop (a + cs.length)).toArray.size = cur.size := by
  simp; omega

theorem app_get1 {olds cs : List Value} {zs : Array Value} {t : Nat} (h : t < olds.length) : (olds.toArray ++ cs.toArray ++ zs)[t]? = olds.toArray[t]? := by
  rw [Array.append_assoc, Array.getElem?_append_left (by simpa using h)]
theorem app_get2 {olds cs : List Value} {zs : Array Value} {s : Nat} (h : s < cs.length) : (olds.toArray ++ cs.toArray ++ zs)[olds.length + s]? = cs[s]? := by
  rw [Array.append_assoc, Array.getElem?_append_right (by simp), Array.getElem?_append_left (by simp; omega)]
  simp
theorem splice_end {rows news : List (List PV)} : rows.take rows.length ++ news ++ rows.drop (rows.length + news.length) = rows ++ news := by
  rw [List.take_length, List.drop_eq_nil_of_le (by omega), List.append_nil]

theorem digApp_spec {args : List AO} {tys : List TypeId} {ao : AOp} (h : digBuiltin P .append args tys = some ao) (hk : ao.isEff = true) :
    ∃ s x t u e i z du, args = [s, x] ∧ tys = [t, u] ∧ P.underlying t = some (.slice e) ∧ P.info? e = some i ∧ i.zero = some z ∧ z.cells.size = i.size ∧ 0 < i.size ∧ P.underlying u = some du ∧ (∀ k, du ≠ .int k) ∧ (i.size < mapE) ∧ ao = .append i.size i.bytes s x := by
  have key : ∃ s x t u, args = [s, x] ∧ tys = [t, u] := by
    rcases args with _ | ⟨s, _ | ⟨x, _ | ⟨y, r⟩⟩⟩ <;> rcases tys with _ | ⟨t, _ | ⟨u, _ | ⟨v, q⟩⟩⟩ <;> first
      | exact ⟨_, _, _, _, rfl, rfl⟩
      | (simp [digBuiltin] at h; done)
  obtain ⟨s, x, t, u, rfl, rfl⟩ := key
  simp only [digBuiltin] at h
  split at h
  · rename_i e i hel
    have hne := elemP_ne hel
    obtain ⟨h1, h2⟩ := elemP_spec hel
    split at h
    · rename_i z hz
      split at h
      · rename_i hc
        split at h
        · rename_i e2 hu
          cases h
          exact ⟨s, x, t, u, e, i, z, .slice e2, rfl, rfl, h1, h2, hz, hc.1, hc.2, hu, (fun k hk => by cases hk), hne, rfl⟩
        · rename_i hu
          cases h
          exact ⟨s, x, t, u, e, i, z, .string, rfl, rfl, h1, h2, hz, hc.1, hc.2, hu, (fun k hk => by cases hk), hne, rfl⟩
        · split at h
          · cases h; simp [AOp.isEff] at hk
          · cases h
        · cases h
      · cases h
    · cases h
  · cases h

theorem two_args {m : Mem} {k : Nat} {sl : List PV} {a : Act} {c : Call} {b : Builtin} (hcal : c.callee = .builtin b) (h : o.op = .call c) {s x : AO} (ha : digL c.args.toList = some [s, x])
    (hl : ∀ t, Operand.tmp t ∈ o.op.operands → Rep m k (sl.getD t .top) (a.tmps.getD t undef)) : ∃ vs vx, c.args.map a.eval = #[vs, vx] ∧ Rep m k (s.ev sl) vs ∧ Rep m k (x.ev sl) vx := by
  obtain ⟨h1, h2⟩ := opds (m := m) (k := k) (sl := sl) (a := a) c.args.toList _ (fun t ht => hl t (call_ops hcal h t ht)) ha
  have hlen : c.args.toList.length = 2 := by simpa using h1.symm
  obtain ⟨o1, o2, hoo⟩ : ∃ o1 o2, c.args.toList = [o1, o2] := by
    cases hq : c.args.toList with
    | nil => rw [hq] at hlen; simp at hlen
    | cons o1 r => cases r with
      | nil => rw [hq] at hlen; simp at hlen
      | cons o2 r => cases r with
        | nil => exact ⟨o1, o2, rfl⟩
        | cons o3 r => rw [hq] at hlen; simp at hlen
  have hargs : c.args = #[o1, o2] := by rw [← Array.toArray_toList (xs := c.args), hoo]
  rw [hoo] at h2
  exact ⟨a.eval o1, a.eval o2, by rw [hargs]; simp, by simpa using h2 0 _ rfl, by simpa using h2 1 _ rfl⟩

theorem flat_cons {fl : Bool} (h : fl = true) (b : Bool) : (fl && b) = b := by rw [h]; rfl

set_option maxHeartbeats 1000000 in
theorem eff_append {c : Call} (h : o.op = .call c) (hcal : c.callee = .builtin .append) : EffSound P call own o := by
  intro ao B k m w sl bl bl' a p next Q hd he hl hin hn
  simp only [digOp, h, hcal] at hd
  split at hd
  · rename_i args ha
    obtain ⟨s, x, t, u, e, i, z, du, rfl, hty, ht, hi, hz, hzs, hpos, hu, hdu, hne, rfl⟩ := digApp_spec hd (by cases ao <;> first | rfl | (simp [evEff] at he; done))
    obtain ⟨vs, vx, hargs, rs, rx⟩ := two_args hcal h ha hl
    have htys : c.argTypes = #[t, u] := by rw [← Array.toArray_toList (xs := c.argTypes), hty]
    have hex := exec_builtin (a := a) hcal h
    rw [htys, hargs] at hex
    have fin : ∀ v w', (Builtin.append_ #[t, u] o.type #[vs, vx]).run P w = .ok v w' → (execOp a.eval o).run P w = .ok (.value v) w' := fun v w' hr => by
      rw [hex]
      simp [builtin, hr]
    simp only [evEff] at he
    split at he
    · rename_i news hnews
      obtain ⟨cs, hN⟩ := news_read (P := P) hin.pur hpos hnews rx
      have hz0 : ∀ q : Nat, (Builtin.zeroCells z.cells q).size = q * i.size := fun q => by rw [size_zeroCells, hzs]
      split at he
      · -- nil
        rename_i hs
        rw [hs] at rs
        obtain ⟨ad, rfl⟩ := nilS_inv rs
        split at he
        · rename_i hc
          cases he
          have hidx : (bl ++ [some (⟨news.length, i.size, news.all (PV.lt.ltL 0), news⟩ : Blk)])[bl.length]? = some (some ⟨news.length, i.size, news.all (PV.lt.ltL 0), news⟩) := by simp
          have hoth : ∀ j, j ≠ bl.length → (bl ++ [some (⟨news.length, i.size, news.all (PV.lt.ltL 0), news⟩ : Blk)])[j]? = bl[j]? := fun j hj => by
            rcases Nat.lt_or_gt_of_ne hj with c | c
            · rw [List.getElem?_append_left c]
            · rw [List.getElem?_eq_none (by simp; omega), List.getElem?_eq_none (by omega)]
          have hnone := hin.fresh bl.length (Nat.le_refl _)
          by_cases hn0 : news = []
          · subst hn0
            refine wp_of_run (fin _ _ (run_app_none ht hu hdu hi hN (Nat.le_refl _))) (hn _ (m.addBlk bl.length ⟨0, 0, i.size, 0, 0, true⟩) _ (k + bl.length + 1) (EffOut.put ⟨0, 0, i.size, 0, 0, true⟩ hin hidx hoth (by omega) (by simp) (fun _ _ _ => rfl) (Below.refl _ _) (fun i' _ hi' => by rw [hnone] at hi'; cases hi') ⟨rfl, rfl, rfl, by simp, .inl ⟨rfl, rfl⟩, hne⟩ (fun h => by cases h) ?_))
            exact .own (by omega) (Mem.addBlk_same _ _ _) (Nat.le_refl _) rfl (fun _ => .inl ⟨rfl, Nat.le_refl _, ad, rfl⟩)
          · have hnl : 0 < news.length := List.length_pos_iff.2 hn0
            obtain ⟨cap, q1, q2, q3⟩ := run_app_grow (ty := o.type) ht hu hdu hi hz hN (a := ad) (sLen := 0) (sCap := 0) (olds := []) (fun w' _ => by cases ad <;> simp [Builtin.firstCells, loadCells, loadCellsFrom]) (by omega) (by omega) (by have := hc.1; simpa using this)
            simp only [Nat.zero_add, List.append_nil] at q1 q3
            refine wp_of_run (fin _ _ q3) (hn _ (m.addBlk bl.length ⟨w.heap.size, news.length, i.size, news.length, cap, false⟩) _ (k + bl.length + 1) (EffOut.put ⟨w.heap.size, news.length, i.size, news.length, cap, false⟩ hin hidx hoth (by omega) (by simp) (fun b hb _ => heap_alloc_old w.drew _ b hb) (((Below.refl _ _).drew).alloc hin.hB _) (fun i' _ hi' => by rw [hnone] at hi'; cases hi') ⟨rfl, rfl, rfl, hN.rowl, .inr ⟨rfl, _, e, heap_alloc_new w.drew _, ?_, q1, q2, ?_⟩, hne⟩ (fun _ => .inl (Nat.le_refl _)) ?_))
            · simp [hz0, hN.len, ← Nat.add_mul]
              congr 1; omega
            · have hmk : MLe k m (m.addBlk bl.length ⟨w.heap.size, news.length, i.size, news.length, cap, false⟩) := (Mem.addBlk_keeps _ k hnone).mle
              have := rows_splice (a := 0) (fl := true) (rows := []) (cur := #[]) (k' := k + bl.length + 1) (cur' := #[] ++ cs.toArray ++ Builtin.zeroCells z.cells (cap - news.length)) (fun r row j p hr => by simp at hr) hN.r hmk (by omega) (Nat.le_refl _) (by simp) (fun t ht => by simp at ht) (fun s hs => by
                simp [List.getElem?_append_left, Array.getElem?_append, hs]) (fun t _ ht => by simp at ht)
              simpa using this
            · exact .own (by omega) (Mem.addBlk_same _ _ _) (Nat.le_refl _) rfl (fun _ => .inr ⟨rfl, cap, by simp, q1, by simp; omega, by simp⟩)
        · cases he
      · -- a slice with no room
        rename_i e' rows hs
        rw [hs] at rs
        obtain ⟨base, cap0, rfl, f1, f2, f3, f4⟩ := sl_inv rs
        have f3' := f3 rfl
        subst f3'
        split at he
        · rename_i hc
          obtain ⟨hee, hnl, hc1, hc2⟩ := hc
          subst hee
          cases he
          have hidx : (bl ++ [some (⟨rows.length + news.length, i.size, news.all (PV.lt.ltL 0), rows ++ news⟩ : Blk)])[bl.length]? = some (some ⟨rows.length + news.length, i.size, news.all (PV.lt.ltL 0), rows ++ news⟩) := by simp
          have hoth : ∀ j, j ≠ bl.length → (bl ++ [some (⟨rows.length + news.length, i.size, news.all (PV.lt.ltL 0), rows ++ news⟩ : Blk)])[j]? = bl[j]? := fun j hj => by
            rcases Nat.lt_or_gt_of_ne hj with c | c
            · rw [List.getElem?_append_left c]
            · rw [List.getElem?_eq_none (by simp; omega), List.getElem?_eq_none (by omega)]
          have hnone := hin.fresh bl.length (Nat.le_refl _)
          obtain ⟨olds, hO⟩ := news_read (P := P) hin.pur (p := .sl true i.size rows) (news := rows) hpos (by simp [rowsOf]) rs
          obtain ⟨cap, q1, q2, q3⟩ := run_app_grow (ty := o.type) ht hu hdu hi hz hN (a := base) (sLen := rows.length) (sCap := rows.length) (olds := olds) (fun w' hw' => by
            have := hO.first rows.length (Nat.le_refl _) w' hw'
            rwa [← hO.len, List.take_length] at this) (by omega) hc2 hc1
          refine wp_of_run (fin _ _ q3) (hn _ (m.addBlk bl.length ⟨w.heap.size, rows.length + news.length, i.size, rows.length + news.length, cap, false⟩) _ (k + bl.length + 1) (EffOut.put ⟨w.heap.size, rows.length + news.length, i.size, rows.length + news.length, cap, false⟩ hin hidx hoth (by omega) (by simp) (fun b hb _ => heap_alloc_old w.drew _ b hb) (((Below.refl _ _).drew).alloc hin.hB _) (fun i' _ hi' => by rw [hnone] at hi'; cases hi') ⟨rfl, rfl, by simp, (fun r hr => by
            rcases List.mem_append.1 hr with hr | hr
            · exact hO.rowl r hr
            · exact hN.rowl r hr), .inr ⟨rfl, _, e, heap_alloc_new w.drew _, ?_, q1, q2, ?_⟩, hne⟩ (fun _ => .inl (Nat.le_refl _)) ?_))
          · simp [hz0, hN.len, hO.len, ← Nat.add_mul]
            congr 1; omega
          · have hmk : MLe k m (m.addBlk bl.length ⟨w.heap.size, rows.length + news.length, i.size, rows.length + news.length, cap, false⟩) := (Mem.addBlk_keeps _ k hnone).mle
            have hold : RowsIn m 0 i.size rows olds.toArray := fun r row j p hr hj => by
              obtain ⟨uu, h1, h2⟩ := hO.rep r row j p hr hj
              rcases f4 with rfl | ⟨b, off, rfl, f5, f6⟩
              · simp at hr
              · obtain ⟨u2, g1, g2⟩ := f6 r row j p hr hj
                have g3 := (hin.frz.1 _ _ _ g1).1
                have h3 := hO.first rows.length (Nat.le_refl _) w (fun _ _ => rfl)
                rw [← hO.len, List.take_length] at h3
                refine ⟨uu, by simpa using h1, hO.one uu (List.mem_of_getElem? h1), ?_⟩
                have hrun := run_firstCells_some (P := P) w i.size rows.length ⟨b, off, none⟩ rows.length rows.length
                  ((List.range (rows.length * i.size)).map fun t => (w.cell? ⟨b, off + t, none⟩).getD undef) (by simp) (fun j' v' hj' => by
                    simp only [List.getElem?_map, Option.map_eq_some_iff] at hj'
                    obtain ⟨t, ht, rfl⟩ := hj'
                    have htl := (List.getElem?_eq_some_iff.1 ht)
                    obtain ⟨htl, hte⟩ := htl
                    simp at hte htl
                    subst hte
                    rw [Addr.add_lit]
                    have hi1 : j' / i.size < rows.length := Nat.div_lt_of_lt_mul (by rw [Nat.mul_comm]; exact htl)
                    have hrow : (rows[j' / i.size]).length = i.size := f5 _ (List.getElem_mem hi1)
                    have hj1 : j' % i.size < (rows[j' / i.size]).length := by rw [hrow]; exact Nat.mod_lt _ hpos
                    obtain ⟨u3, g4, _⟩ := f6 (j' / i.size) _ (j' % i.size) _ (List.getElem?_eq_getElem hi1) (List.getElem?_eq_getElem hj1)
                    have : off + j' / i.size * i.size + j' % i.size = off + j' := by have := Nat.div_add_mod j' i.size; rw [Nat.mul_comm] at this; omega
                    rw [this] at g4
                    rw [(hin.frz.1 _ _ _ g4).1]
                    rfl)
                rw [hrun] at h3
                injection h3 with h3 _
                have h4 : olds = (List.range (rows.length * i.size)).map fun t => (w.cell? ⟨b, off + t, none⟩).getD undef := by
                  have := congrArg Array.toList h3
                  simpa using this.symm
                have hlt : r * i.size + j < rows.length * i.size := by
                  have := (List.getElem?_eq_some_iff.1 h1).1
                  rwa [hO.len] at this
                rw [h4] at h1
                simp [hlt] at h1
                rw [← Nat.add_assoc, g3] at h1
                simp at h1
                rw [← h1]
                exact g2
            have := rows_splice (a := rows.length) (fl := true) (rows := rows) (cur := olds.toArray) (k' := k + bl.length + 1) (cur' := olds.toArray ++ cs.toArray ++ Builtin.zeroCells z.cells (cap - (rows.length + news.length))) (by simpa using hold) hN.r hmk (by omega) (Nat.le_refl _) hO.rowl (fun t ht => by
                exact app_get1 (by rw [hO.len]; exact ht)) (fun s hs => by
                rw [← hO.len]; exact app_get2 hs) (fun t h1 h2 => by omega)
            rw [splice_end] at this
            simpa using this
          · exact .own (by omega) (Mem.addBlk_same _ _ _) (Nat.le_refl _) rfl (fun _ => .inr ⟨rfl, cap, by simp, q1, by simp; omega, by simp⟩)
        · cases he
      · -- a slice of the call's own
        rename_i b ver lo len hs
        rw [hs] at rs
        obtain ⟨inf, g1, g2, g3, g4, g5⟩ := own_inv rs
        split at he
        · rename_i bx hgb
          obtain ⟨hat, hver⟩ := blk_of hin.pur hgb g2
          obtain ⟨hbl, hverb⟩ := getB_spec hgb
          have hblt : b < bl.length := (List.getElem?_eq_some_iff.1 hbl).1
          have hov := g5 hver
          split at he
          · rename_i hc
            obtain ⟨hee, hlo, hlen, hc1, hc2⟩ := hc
            cases he
            subst hlo
            have hidx : (bl.set b (some (⟨bx.ver + news.length, i.size, bx.flat && news.all (PV.lt.ltL 0), bx.rows ++ news⟩ : Blk)))[b]? = some (some ⟨bx.ver + news.length, i.size, bx.flat && news.all (PV.lt.ltL 0), bx.rows ++ news⟩) := List.getElem?_set_self hblt
            have hoth : ∀ j, j ≠ b → (bl.set b (some (⟨bx.ver + news.length, i.size, bx.flat && news.all (PV.lt.ltL 0), bx.rows ++ news⟩ : Blk)))[j]? = bl[j]? := fun j hj => List.getElem?_set_ne (fun e => hj e.symm)
            have hrowl : ∀ r ∈ bx.rows ++ news, r.length = i.size := fun r hr => by
              rcases List.mem_append.1 hr with hr | hr
              · rw [← hee]; exact hat.rowl r hr
              · exact hN.rowl r hr
            -- nothing is appended
            by_cases hn0 : news = []
            · subst hn0
              have hstay : (Builtin.append_ #[t, u] o.type #[vs, vx]).run P w = .ok vs w := by
                rcases hov with ⟨hz1, _, ad, rfl⟩ | ⟨hv, cap, rfl, q1, q2, q3⟩
                · exact run_app_none ht hu hdu hi hN (Nat.le_refl _)
                · exact run_app_none ht hu hdu hi hN q1
              refine wp_of_run (fin _ _ hstay) (hn _ (m.addBlk b inf) _ k (EffOut.put inf hin hidx hoth (Nat.le_refl _) (by simp) (fun _ _ _ => rfl) (Below.refl _ _) (fun i' _ hi' => .inl (by rw [g2] at hi'; cases hi'; rfl)) ⟨by simpa using hat.ver, by rw [hat.e, hee], by simpa using hat.n, by simpa using hrowl, ?_, hne⟩ (fun hv => .inr ⟨bx, inf, hbl, g2, hv, rfl⟩) ?_))
              · have hmk : MLe k m (m.addBlk b inf) := ⟨fun _ _ _ h => h, fun b' i' hb hi' => by
                  by_cases e : b' = b
                  · subst e; rw [g2] at hi'; cases hi'; exact ⟨_, Mem.addBlk_same _ _ _, .inl rfl⟩
                  · exact ⟨i', by simpa [Mem.addBlk, e] using hi', .inl rfl⟩⟩
                have := (hat.mono hmk (Nat.le_refl _) (fun _ => rfl)).mem
                simpa [hee] using this
              · exact .own g1 (Mem.addBlk_same _ _ _) (by simp; omega) g4 (fun _ => by simpa using hov)
            · have hnl : 0 < news.length := List.length_pos_iff.2 hn0
              have grow : ∀ (base : Option Addr) (cap0 : Nat) (olds : List Value), vs = .slice base len cap0 → cap0 < len + news.length → olds.length = bx.rows.length * i.size →
                  (∀ w', (∀ b o, w'.cell? ⟨b, o, none⟩ = w.cell? ⟨b, o, none⟩) → (Builtin.firstCells i.size len vs).run P w' = .ok olds.toArray w') → RowsIn m (if bx.flat then 0 else k) i.size bx.rows olds.toArray → o.wp P a w next Q := by
                intro base cap0 olds hvs hg hol hrd hR
                subst hvs
                obtain ⟨cap, q1, q2, q3⟩ := run_app_grow (ty := o.type) ht hu hdu hi hz hN (a := base) (sLen := len) (sCap := cap0) (olds := olds) hrd hg hc2 hc1
                refine wp_of_run (fin _ _ q3) (hn _ (m.addBlk b ⟨w.heap.size, bx.ver + news.length, i.size, bx.rows.length + news.length, cap, false⟩) _ k (EffOut.put ⟨w.heap.size, bx.ver + news.length, i.size, bx.rows.length + news.length, cap, false⟩ hin hidx hoth (Nat.le_refl _) (by simp) (fun b hb _ => heap_alloc_old w.drew _ b hb) (((Below.refl _ _).drew).alloc hin.hB _) (fun i' _ hi' => .inr (by rw [g2] at hi'; cases hi'; show inf.ver < bx.ver + news.length; have := hat.ver; omega)) ⟨rfl, rfl, by simp, hrowl, .inr ⟨rfl, _, e, heap_alloc_new w.drew _, ?_, by simp only; omega, q2, ?_⟩, hne⟩ (fun _ => .inl (Nat.le_refl _)) ?_))
                · simp [hz0, hN.len, hol, ← Nat.add_mul]
                  congr 1; omega
                · have hmk : MLe k m (m.addBlk b ⟨w.heap.size, bx.ver + news.length, i.size, bx.rows.length + news.length, cap, false⟩) := ⟨fun _ _ _ h => h, fun b' i' hb hi' => by
                    by_cases e : b' = b
                    · subst e; rw [g2] at hi'; cases hi'; exact ⟨_, Mem.addBlk_same _ _ _, .inr (by show inf.ver < bx.ver + news.length; have := hat.ver; omega)⟩
                    · exact ⟨i', by simpa [Mem.addBlk, e] using hi', .inl rfl⟩⟩
                  have := rows_splice (a := bx.rows.length) (fl := bx.flat) (rows := bx.rows) (cur := olds.toArray) (k' := k) (cur' := olds.toArray ++ cs.toArray ++ Builtin.zeroCells z.cells (cap - (len + news.length))) hR hN.r hmk (Nat.le_refl _) (Nat.le_refl _) (fun r hr => by rw [← hee]; exact hat.rowl r hr) (fun t ht => by
                      exact app_get1 (by rw [hol]; exact ht)) (fun s hs => by
                      rw [← hol]; exact app_get2 hs) (fun t h1 h2 => by omega)
                  rw [splice_end] at this
                  exact this
                · exact .own g1 (Mem.addBlk_same _ _ _) (by simp only; omega) rfl (fun _ => .inr ⟨rfl, cap, by simp, q1, by simp only; omega, by simp⟩)
              rcases hov with ⟨hz1, hz2, ad, hvs⟩ | ⟨hv, cap, hvs, q1, q2, q3⟩
              · have hr0 : bx.rows = [] := List.eq_nil_of_length_eq_zero (by omega)
                refine grow ad 0 [] (by rw [hvs, hz1]) (by omega) (by simp [hr0]) (fun w' _ => by rw [hvs, hz1]; cases ad <;> simp [Builtin.firstCells, loadCells, loadCellsFrom]) (fun r row j p hr => by simp [hr0] at hr)
              · rcases hat.mem with ⟨hv', _⟩ | ⟨_, cur, ty, m1, m2, m3, m4, m5⟩
                · rw [hv] at hv'; cases hv'
                · have hie : inf.e = i.size := by rw [hat.e, hee]
                  rw [hie] at m2
                  rw [hee] at m5
                  simp only [Nat.zero_mul] at hvs
                  by_cases hroom : len + news.length ≤ cap
                  · have hfit : 0 + len * i.size + cs.length ≤ cur.size := by
                      rw [m2, hN.len, Nat.zero_add, ← Nat.add_mul]
                      exact Nat.mul_le_mul_right _ (by omega)
                    have hrun := run_app_room (ty := o.type) (off := 0) ht hu hdu hi hN m1 hroom hfit
                    rw [← hvs] at hrun
                    simp only [Nat.zero_add] at hrun hfit
                    refine wp_of_run (fin _ _ hrun) (hn _ (m.addBlk b ⟨inf.g, bx.ver + news.length, i.size, bx.rows.length + news.length, inf.cap, false⟩) _ k (EffOut.put ⟨inf.g, bx.ver + news.length, i.size, bx.rows.length + news.length, inf.cap, false⟩ hin hidx hoth (Nat.le_refl _) (by simp) (fun b' _ hb' => setRow_other _ _ _ _ (hb' bx inf hbl g2 hv)) (below_setRow _ (hin.own.base b bx inf hbl g2 hv).1) (fun i' _ hi' => .inr (by rw [g2] at hi'; cases hi'; show inf.ver < bx.ver + news.length; have := hat.ver; omega)) ⟨rfl, rfl, by simp, hrowl, .inr ⟨rfl, _, ty, setRow_heap w _ cur _ ty _ m1, by rw [splice_size hfit]; exact m2, by simp only; omega, m4, ?_⟩, hne⟩ (fun _ => .inr ⟨bx, inf, hbl, g2, hv, rfl⟩) ?_))
                    · have hmk : MLe k m (m.addBlk b ⟨inf.g, bx.ver + news.length, i.size, bx.rows.length + news.length, inf.cap, false⟩) := ⟨fun _ _ _ h => h, fun b' i' hb hi' => by
                        by_cases e : b' = b
                        · subst e; rw [g2] at hi'; cases hi'; exact ⟨_, Mem.addBlk_same _ _ _, .inr (by show inf.ver < bx.ver + news.length; have := hat.ver; omega)⟩
                        · exact ⟨i', by simpa [Mem.addBlk, e] using hi', .inl rfl⟩⟩
                      have := rows_splice (a := bx.rows.length) (fl := bx.flat) (rows := bx.rows) (cur := cur) (k' := k) (cur' := (cur.toList.take (len * i.size) ++ cs ++ cur.toList.drop (len * i.size + cs.length)).toArray) m5 hN.r hmk (Nat.le_refl _) (Nat.le_refl _) (fun r hr => by rw [← hee]; exact hat.rowl r hr) (fun t ht => by
                          rw [splice_get hfit, if_pos (by rw [hlen]; exact ht)]) (fun s hs => by
                          rw [splice_get hfit, hlen, if_neg (by omega), if_pos (by omega), Nat.add_sub_cancel_left]) (fun t h1 h2 => by omega)
                      rw [splice_end] at this
                      exact this
                    · exact .own g1 (Mem.addBlk_same _ _ _) (by simp only; omega) rfl (fun _ => .inr ⟨rfl, cap, by simp, hroom, by simp only; omega, by simp only; omega⟩)
                  · have hlc : len * i.size ≤ cur.size := by rw [m2]; exact Nat.mul_le_mul_right _ (by omega)
                    refine grow (some ⟨inf.g, 0, none⟩) cap (cur.toList.take (len * i.size)) hvs (by omega) (by simp [hlen]; rw [← hlen]; omega) (fun w' hw' => ?_) (fun r row j p hr hj => ?_)
                    · rw [hvs]
                      refine run_firstCells_some w' i.size len ⟨inf.g, 0, none⟩ len cap _ (by simp; omega) (fun j v hj => ?_)
                      rw [Addr.add_lit, Nat.zero_add, hw']
                      rw [List.getElem?_take] at hj
                      split at hj
                      · simpa [World.cell?, m1] using hj
                      · cases hj
                    · obtain ⟨v, h1, h2, h3⟩ := m5 r row j p hr hj
                      refine ⟨v, ?_, h2, h3⟩
                      have hrl : row.length = i.size := by rw [← hee]; exact hat.rowl row (List.mem_of_getElem? hr)
                      have hjl := (List.getElem?_eq_some_iff.1 hj).1
                      have hrlt := (List.getElem?_eq_some_iff.1 hr).1
                      have h5 : (r + 1) * i.size ≤ len * i.size := Nat.mul_le_mul_right _ (by omega)
                      rw [Nat.add_mul] at h5
                      rw [List.getElem?_toArray, List.getElem?_take_of_lt (by omega)]
                      simpa using h1
          · split at he
            · rename_i hc
              obtain ⟨hee, hc1⟩ := hc
              cases he
              have hidx : (bl.set b (some (⟨bx.ver, i.size, bx.flat && news.all (PV.lt.ltL 0), bx.rows.take (lo + len) ++ news ++ bx.rows.drop (lo + len + news.length)⟩ : Blk)))[b]? = some (some ⟨bx.ver, i.size, bx.flat && news.all (PV.lt.ltL 0), bx.rows.take (lo + len) ++ news ++ bx.rows.drop (lo + len + news.length)⟩) := List.getElem?_set_self hblt
              have hoth : ∀ j, j ≠ b → (bl.set b (some (⟨bx.ver, i.size, bx.flat && news.all (PV.lt.ltL 0), bx.rows.take (lo + len) ++ news ++ bx.rows.drop (lo + len + news.length)⟩ : Blk)))[j]? = bl[j]? := fun j hj => List.getElem?_set_ne (fun e => hj e.symm)
              have hrowl : ∀ r ∈ bx.rows.take (lo + len) ++ news ++ bx.rows.drop (lo + len + news.length), r.length = i.size := fun r hr => by
                rcases List.mem_append.1 hr with hr | hr
                · rcases List.mem_append.1 hr with hr | hr
                  · rw [← hee]; exact hat.rowl r (List.mem_of_mem_take hr)
                  · exact hN.rowl r hr
                · rw [← hee]; exact hat.rowl r (List.mem_of_mem_drop hr)
              have hcount : (bx.rows.take (lo + len) ++ news ++ bx.rows.drop (lo + len + news.length)).length = bx.rows.length := by simp; omega
              have hmk : MLe k m (m.addBlk b inf) := ⟨fun _ _ _ h => h, fun b' i' hb hi' => by
                by_cases e : b' = b
                · subst e; rw [g2] at hi'; cases hi'; exact ⟨_, Mem.addBlk_same _ _ _, .inl rfl⟩
                · exact ⟨i', by simpa [Mem.addBlk, e] using hi', .inl rfl⟩⟩
              by_cases hn0 : news = []
              · subst hn0
                have hstay : (Builtin.append_ #[t, u] o.type #[vs, vx]).run P w = .ok vs w := by
                  rcases hov with ⟨hz1, _, ad, rfl⟩ | ⟨hv, cap, rfl, q1, q2, q3⟩
                  · exact run_app_none ht hu hdu hi hN (by omega)
                  · exact run_app_none ht hu hdu hi hN q1
                have hsame : bx.rows.take (lo + len) ++ ([] : List (List PV)) ++ bx.rows.drop (lo + len + ([] : List (List PV)).length) = bx.rows := by simp
                refine wp_of_run (fin _ _ hstay) (hn _ (m.addBlk b inf) _ k (EffOut.put inf hin hidx hoth (Nat.le_refl _) (by simp) (fun _ _ _ => rfl) (Below.refl _ _) (fun i' _ hi' => .inl (by rw [g2] at hi'; cases hi'; rfl)) ⟨hat.ver, by rw [hat.e, hee], by rw [hat.n, hcount], hrowl, ?_, hne⟩ (fun hv => .inr ⟨bx, inf, hbl, g2, hv, rfl⟩) ?_))
                · have := (hat.mono hmk (Nat.le_refl _) (fun _ => rfl)).mem
                  rw [hsame]
                  simpa [hee] using this
                · exact .own g1 (Mem.addBlk_same _ _ _) g3 g4 (fun _ => by simpa using hov)
              · have hnl : 0 < news.length := List.length_pos_iff.2 hn0
                rcases hov with ⟨hz1, hz2, ad, hvs⟩ | ⟨hv, cap, hvs, q1, q2, q3⟩
                · have := hat.n; omega
                · rcases hat.mem with ⟨hv', _⟩ | ⟨_, cur, ty, m1, m2, m3, m4, m5⟩
                  · rw [hv] at hv'; cases hv'
                  · have hie : inf.e = i.size := by rw [hat.e, hee]
                    rw [hie] at m2 hvs
                    rw [hee] at m5
                    have hinn := hat.n
                    have hfit : lo * i.size + len * i.size + cs.length ≤ cur.size := by
                      rw [m2, hN.len, ← Nat.add_mul, ← Nat.add_mul]
                      exact Nat.mul_le_mul_right _ (by omega)
                    have hrun := run_app_room (ty := o.type) (off := lo * i.size) (sLen := len) (sCap := cap) ht hu hdu hi hN m1 (by omega) hfit
                    rw [← hvs] at hrun
                    rw [← Nat.add_mul] at hrun hfit
                    refine wp_of_run (fin _ _ hrun) (hn _ (m.addBlk b inf) _ k (EffOut.put inf hin hidx hoth (Nat.le_refl _) (by simp) (fun b' _ hb' => setRow_other _ _ _ _ (hb' bx inf hbl g2 hv)) (below_setRow _ (hin.own.base b bx inf hbl g2 hv).1) (fun i' _ hi' => .inl (by rw [g2] at hi'; cases hi'; rfl)) ⟨hat.ver, hie, by rw [hat.n, hcount], hrowl, .inr ⟨hv, _, ty, setRow_heap w _ cur _ ty _ m1, by rw [splice_size hfit, hie]; exact m2, m3, m4, ?_⟩, hne⟩ (fun _ => .inr ⟨bx, inf, hbl, g2, hv, rfl⟩) ?_))
                    · exact rows_splice (e := i.size) (a := lo + len) (fl := bx.flat) m5 hN.r hmk (Nat.le_refl _) (by omega) (fun r hr => by rw [← hee]; exact hat.rowl r hr) (fun t ht => by
                          rw [splice_get hfit, if_pos ht]) (fun s hs => by
                          rw [splice_get hfit, if_neg (by omega), if_pos (by omega), Nat.add_sub_cancel_left]) (fun t h1 h2 => by
                          rw [splice_get hfit, if_neg (by omega), if_neg (by omega)])
                    · exact .own g1 (Mem.addBlk_same _ _ _) g3 rfl (fun _ => .inr ⟨hv, cap, by rw [hie], by omega, q2, q3⟩)
            · cases he
        · cases he
      · cases he
    · cases he
  · cases hd

theorem digCopy_spec {args : List AO} {tys : List TypeId} {ao : AOp} (h : digBuiltin P .copy args tys = some ao) :
    ∃ s x t u e i, args = [s, x] ∧ tys = [t, u] ∧ P.underlying t = some (.slice e) ∧ P.info? e = some i ∧ 0 < i.size ∧ ao = .copy i.size s x := by
  have key : ∃ s x t u, args = [s, x] ∧ tys = [t, u] := by
    rcases args with _ | ⟨s, _ | ⟨x, _ | ⟨y, r⟩⟩⟩ <;> rcases tys with _ | ⟨t, _ | ⟨u, _ | ⟨v, q⟩⟩⟩ <;> first
      | exact ⟨_, _, _, _, rfl, rfl⟩
      | (simp [digBuiltin] at h; done)
  obtain ⟨s, x, t, u, rfl, rfl⟩ := key
  simp only [digBuiltin] at h
  split at h
  · rename_i e i hel
    obtain ⟨h1, h2⟩ := elemP_spec hel
    split at h
    · cases h
      exact ⟨s, x, t, u, e, i, rfl, rfl, h1, h2, by assumption, rfl⟩
    · cases h
  · cases h

theorem eff_copy {c : Call} (h : o.op = .call c) (hcal : c.callee = .builtin .copy) : EffSound P call own o := by
  intro ao B k m w sl bl bl' a p next Q hd he hl hin hn
  simp only [digOp, h, hcal] at hd
  split at hd
  · rename_i args ha
    obtain ⟨d, s, t, u, e, i, rfl, hty, ht, hi, hpos, rfl⟩ := digCopy_spec hd
    obtain ⟨vs, vx, hargs, rs, rx⟩ := two_args hcal h ha hl
    have htys : c.argTypes = #[t, u] := by rw [← Array.toArray_toList (xs := c.argTypes), hty]
    have hex := exec_builtin (a := a) hcal h
    rw [htys, hargs] at hex
    simp only [evEff] at he
    split at he
    · rename_i b ver lo len news hs hnews
      obtain ⟨cs, hN⟩ := news_read (P := P) hin.pur hpos hnews rx
      rw [hs] at rs
      obtain ⟨inf, g1, g2, g3, g4, g5⟩ := own_inv rs
      split at he
      · rename_i bx hgb
        obtain ⟨hat, hver⟩ := blk_of hin.pur hgb g2
        obtain ⟨hbl, hverb⟩ := getB_spec hgb
        have hblt : b < bl.length := (List.getElem?_eq_some_iff.1 hbl).1
        have hov := g5 hver
        split at he
        · rename_i hc
          obtain ⟨hc1, hee⟩ := hc
          cases he
          have hnn : Nat.min news.length len ≤ news.length := Nat.min_le_left _ _
          have hnl : Nat.min news.length len ≤ len := Nat.min_le_right _ _
          generalize hn0 : Nat.min news.length len = n at hnn hnl hn ⊢
          have hT := hN.take n hnn
          have htl : (news.take n).length = n := by simp; omega
          have hidx : (bl.set b (some (⟨bx.ver, bx.e, bx.flat && news.all (PV.lt.ltL 0), bx.rows.take lo ++ news.take n ++ bx.rows.drop (lo + n)⟩ : Blk)))[b]? = some (some ⟨bx.ver, bx.e, bx.flat && news.all (PV.lt.ltL 0), bx.rows.take lo ++ news.take n ++ bx.rows.drop (lo + n)⟩) := List.getElem?_set_self hblt
          have hoth : ∀ j, j ≠ b → (bl.set b (some (⟨bx.ver, bx.e, bx.flat && news.all (PV.lt.ltL 0), bx.rows.take lo ++ news.take n ++ bx.rows.drop (lo + n)⟩ : Blk)))[j]? = bl[j]? := fun j hj => List.getElem?_set_ne (fun e => hj e.symm)
          have hrowl : ∀ r ∈ bx.rows.take lo ++ news.take n ++ bx.rows.drop (lo + n), r.length = bx.e := fun r hr => by
            rcases List.mem_append.1 hr with hr | hr
            · rcases List.mem_append.1 hr with hr | hr
              · exact hat.rowl r (List.mem_of_mem_take hr)
              · rw [hee]; exact hN.rowl r (List.mem_of_mem_take hr)
            · exact hat.rowl r (List.mem_of_mem_drop hr)
          have hcount : (bx.rows.take lo ++ news.take n ++ bx.rows.drop (lo + n)).length = bx.rows.length := by simp; omega
          have hmk : MLe k m (m.addBlk b inf) := ⟨fun _ _ _ h => h, fun b' i' hb hi' => by
            by_cases e : b' = b
            · subst e; rw [g2] at hi'; cases hi'; exact ⟨_, Mem.addBlk_same _ _ _, .inl rfl⟩
            · exact ⟨i', by simpa [Mem.addBlk, e] using hi', .inl rfl⟩⟩
          have hszr : (sizeOf e).run P w = .ok i.size w := by simp [sizeOf, typeInfo, hi]
          have hfc := hN.first n hnn w (fun _ _ => rfl)
          have stay : n = 0 → (∃ a0 c0, vs = .slice a0 len c0) → (execOp a.eval o).run P w = .ok (.value (.int .i64 n)) w := by
            rintro hz ⟨a0, c0, rfl⟩
            subst hz
            rw [hex]
            simp only [Nat.zero_mul, List.take_zero] at hfc
            cases a0 <;> simp [builtin, Builtin.copy_, run_underlying ht, hN.lenOf, hn0, hszr, hfc, storeCells, goInt]
          by_cases hz : n = 0
          · have hsame : bx.rows.take lo ++ news.take n ++ bx.rows.drop (lo + n) = bx.rows := by rw [hz]; simp
            have hvs : ∃ a0 c0, vs = .slice a0 len c0 := by
              rcases hov with ⟨hz1, _, ad, rfl⟩ | ⟨hv, cap, rfl, _⟩
              · exact ⟨ad, 0, by rw [hz1]⟩
              · exact ⟨_, _, rfl⟩
            refine wp_of_run (stay hz hvs) (hn _ (m.addBlk b inf) _ k (EffOut.put inf hin hidx hoth (Nat.le_refl _) (by simp) (fun _ _ _ => rfl) (Below.refl _ _) (fun i' _ hi' => .inl (by rw [g2] at hi'; cases hi'; rfl)) ⟨hat.ver, hat.e, by rw [hat.n, hcount], hrowl, ?_, hat.ne⟩ (fun hv => .inr ⟨bx, inf, hbl, g2, hv, rfl⟩) .int))
            have hmem := (hat.mono hmk (Nat.le_refl _) (fun _ => rfl)).mem
            rw [hsame]
            rcases hmem with hm | ⟨hv, cur, ty, a1, a2, a3, a4, a5⟩
            · exact .inl hm
            · refine .inr ⟨hv, cur, ty, a1, a2, a3, a4, ?_⟩
              cases hfl : bx.flat
              · rw [hfl] at a5; simpa using a5
              · rw [hfl] at a5
                simp only [if_true] at a5
                simp only [Bool.true_and]
                split
                · exact a5
                · exact a5.mono (MLe.refl _ _) (Nat.zero_le _)
          · rcases hov with ⟨hz1, hz2, ad, hvs⟩ | ⟨hv, cap, hvs, q1, q2, q3⟩
            · omega
            · rcases hat.mem with ⟨hv', _⟩ | ⟨_, cur, ty, m1, m2, m3, m4, m5⟩
              · rw [hv] at hv'; cases hv'
              · have hie : inf.e = i.size := by rw [hat.e, hee]
                have hinn := hat.n
                rw [hie] at m2 hvs
                rw [hee] at m5
                have hcl : (cs.take (n * i.size)).length = n * i.size := by rw [hT.len, htl]
                have hfit : lo * i.size + (cs.take (n * i.size)).length ≤ cur.size := by
                  rw [hcl, m2, ← Nat.add_mul]
                  exact Nat.mul_le_mul_right _ (by omega)
                have hst := run_storeCells_at P inf.g (lo * i.size) ty (cs.take (n * i.size)) 0 cur w m1 (by simpa using hfit) hT.one
                simp only [Nat.add_zero] at hst
                have hrun : (execOp a.eval o).run P w = .ok (.value (.int .i64 n)) (w.setRow inf.g (cur.toList.take (lo * i.size) ++ cs.take (n * i.size) ++ cur.toList.drop (lo * i.size + (cs.take (n * i.size)).length)).toArray) := by
                  rw [hex, hvs]
                  simp [builtin, Builtin.copy_, run_underlying ht, hN.lenOf, hn0, hszr, hfc, hst, goInt]
                refine wp_of_run hrun (hn _ (m.addBlk b inf) _ k (EffOut.put inf hin hidx hoth (Nat.le_refl _) (by simp) (fun b' _ hb' => setRow_other _ _ _ _ (hb' bx inf hbl g2 hv)) (below_setRow _ (hin.own.base b bx inf hbl g2 hv).1) (fun i' _ hi' => .inl (by rw [g2] at hi'; cases hi'; rfl)) ⟨hat.ver, hat.e, by rw [hat.n, hcount], hrowl, .inr ⟨hv, _, ty, setRow_heap w _ cur _ ty _ m1, by rw [splice_size hfit, hie]; exact m2, m3, m4, ?_⟩, hat.ne⟩ (fun _ => .inr ⟨bx, inf, hbl, g2, hv, rfl⟩) .int))
                have hsp := rows_splice (e := i.size) (a := lo) (fl := bx.flat) (k' := k) (cur' := (cur.toList.take (lo * i.size) ++ cs.take (n * i.size) ++ cur.toList.drop (lo * i.size + (cs.take (n * i.size)).length)).toArray) m5 hT hmk (Nat.le_refl _) (by omega) (fun r hr => by rw [← hee]; exact hat.rowl r hr) (fun t ht => by
                    rw [splice_get hfit, if_pos ht]) (fun s hs => by
                    rw [splice_get hfit, if_neg (by omega), if_pos (by omega), Nat.add_sub_cancel_left]) (fun t h1 h2 => by
                    rw [splice_get hfit, if_neg (by omega), if_neg (by omega)])
                rw [htl] at hsp
                rw [hee]
                cases hfl : bx.flat && news.all (PV.lt.ltL 0)
                · simp only [Bool.false_eq_true, if_false]
                  split at hsp
                  · exact hsp.mono (MLe.refl _ _) (Nat.zero_le _)
                  · exact hsp
                · simp only [if_true]
                  simp only [Bool.and_eq_true] at hfl
                  have : (bx.flat && (news.take n).all (PV.lt.ltL 0)) = true := by
                    simp only [Bool.and_eq_true]
                    refine ⟨hfl.1, ?_⟩
                    rw [List.all_eq_true]
                    intro r hr
                    exact List.all_eq_true.1 hfl.2 r (List.mem_of_mem_take hr)
                  rw [this] at hsp
                  exact hsp
        · cases he
      · cases he
    · cases he
  · cases hd

theorem digClr_spec {args : List AO} {tys : List TypeId} {ao : AOp} (h : digBuiltin P .clear args tys = some ao) :
    ∃ s t e i z, args = [s] ∧ tys = [t] ∧ P.underlying t = some (.slice e) ∧ P.info? e = some i ∧ 0 < i.size ∧ zeroP P e = some z ∧ ao = .clr i.size z s := by
  have key : ∃ s t, args = [s] ∧ tys = [t] := by
    rcases args with _ | ⟨s, _ | ⟨x, r⟩⟩ <;> rcases tys with _ | ⟨t, _ | ⟨u, q⟩⟩ <;> first
      | exact ⟨_, _, rfl, rfl⟩
      | (simp [digBuiltin] at h; done)
  obtain ⟨s, t, rfl, rfl⟩ := key
  simp only [digBuiltin] at h
  split at h
  · rename_i e i hel
    obtain ⟨h1, h2⟩ := elemP_spec hel
    split at h
    · split at h
      · rename_i z hz
        cases h
        exact ⟨s, t, e, i, z, rfl, rfl, h1, h2, by assumption, hz, rfl⟩
      · cases h
    · cases h
  · cases h
theorem one_arg {m : Mem} {k : Nat} {sl : List PV} {a : Act} {c : Call} {b : Builtin} (hcal : c.callee = .builtin b) (h : o.op = .call c) {s : AO} (ha : digL c.args.toList = some [s])
    (hl : ∀ t, Operand.tmp t ∈ o.op.operands → Rep m k (sl.getD t .top) (a.tmps.getD t undef)) : ∃ vs, c.args.map a.eval = #[vs] ∧ Rep m k (s.ev sl) vs := by
  obtain ⟨h1, h2⟩ := opds (m := m) (k := k) (sl := sl) (a := a) c.args.toList _ (fun t ht => hl t (call_ops hcal h t ht)) ha
  have hlen : c.args.toList.length = 1 := by simpa using h1.symm
  obtain ⟨o1, hoo⟩ : ∃ o1, c.args.toList = [o1] := by
    cases hq : c.args.toList with
    | nil => rw [hq] at hlen; simp at hlen
    | cons o1 r => cases r with
      | nil => exact ⟨o1, rfl⟩
      | cons o2 r => rw [hq] at hlen; simp at hlen
  have hargs : c.args = #[o1] := by rw [← Array.toArray_toList (xs := c.args), hoo]
  rw [hoo] at h2
  exact ⟨a.eval o1, by rw [hargs]; simp, by simpa using h2 0 _ rfl⟩
theorem zero_news {m : Mem} {k n : Nat} {zv : Value} (he : 0 < zv.cells.size) (hleaf : (zv.cells.toList.map ofVal).all PV.leaf = true) :
    NewsR m k zv.cells.size (List.replicate n (zv.cells.toList.map ofVal)) (Builtin.zeroCells zv.cells n).toList := by
  have hzl : (zv.cells.toList.map ofVal).length = zv.cells.size := by simp
  have e4 : Builtin.zeroCells zv.cells n = repCells zv (n * zv.cells.size) := rfl
  refine ⟨by simp [size_zeroCells], fun u hu => ?_, fun i row j q hr hj => ?_⟩
  · obtain ⟨t, ht, hut⟩ := List.getElem_of_mem hu
    have ht' : t < n * zv.cells.size := by simpa [size_zeroCells] using ht
    have hg : (Builtin.zeroCells zv.cells n).toList[t]? = some u := by rw [List.getElem?_eq_getElem ht, hut]
    rw [Array.getElem?_toList, e4, repCells_get ht' he] at hg
    have hm : t % zv.cells.size < zv.cells.size := Nat.mod_lt _ he
    have hj : (zv.cells.toList.map ofVal)[t % zv.cells.size]? = some (ofVal zv.cells[t % zv.cells.size]) := by simp [hm]
    obtain ⟨v, h1, h2, _⟩ := zero_cells (m := m) hleaf hj
    rw [h1] at hg
    rw [← Option.some.inj hg]
    exact h2
  · have hr' := (List.getElem?_eq_some_iff.1 hr).1
    simp at hr'
    have hrow : row = zv.cells.toList.map ofVal := List.eq_of_mem_replicate (List.mem_of_getElem? hr)
    subst hrow
    have hj' := (List.getElem?_eq_some_iff.1 hj).1
    rw [hzl] at hj'
    have hin2 : i * zv.cells.size + j < n * zv.cells.size := by
      have : (i + 1) * zv.cells.size ≤ n * zv.cells.size := Nat.mul_le_mul_right _ (by omega)
      rw [Nat.add_mul] at this
      omega
    rw [Array.getElem?_toList, e4, repCells_get hin2 he, Nat.mul_comm, Nat.mul_add_mod, Nat.mod_eq_of_lt (by omega)]
    obtain ⟨v, h1, _, h3⟩ := zero_cells (m := m) hleaf hj
    exact ⟨v, h1, h3.up (Nat.zero_le _)⟩
set_option maxHeartbeats 1000000 in
theorem eff_clear {c : Call} (h : o.op = .call c) (hcal : c.callee = .builtin .clear) : EffSound P call own o := by
  intro ao B k m w sl bl bl' a p next Q hd he hl hin hn
  simp only [digOp, h, hcal] at hd
  split at hd
  · rename_i args ha
    obtain ⟨d, t, e, i, z, rfl, hty, ht, hi, hpos, hz, rfl⟩ := digClr_spec hd
    obtain ⟨i', zv, hi', hzv, rfl, hsz, hleaf, hlt⟩ := zeroP_spec hz
    rw [hi] at hi'
    cases hi'
    obtain ⟨vs, hargs, rs⟩ := one_arg hcal h ha hl
    have htys : c.argTypes = #[t] := by rw [← Array.toArray_toList (xs := c.argTypes), hty]
    have hex := exec_builtin (a := a) hcal h
    rw [htys, hargs] at hex
    simp only [evEff] at he
    split at he
    · rename_i b ver lo len hs
      rw [hs] at rs
      obtain ⟨inf, g1, g2, g3, g4, g5⟩ := own_inv rs
      split at he
      · rename_i bx hgb
        obtain ⟨hat, hver⟩ := blk_of hin.pur hgb g2
        obtain ⟨hbl, hverb⟩ := getB_spec hgb
        have hblt : b < bl.length := (List.getElem?_eq_some_iff.1 hbl).1
        have hov := g5 hver
        split at he
        · rename_i hc
          obtain ⟨hc1, hee⟩ := hc
          have hall : (List.replicate len (zv.cells.toList.map ofVal)).all (PV.lt.ltL 0) = true := by
            rw [List.all_eq_true]
            intro r hr
            rw [List.eq_of_mem_replicate hr]
            exact hlt
          have hfa : PV.lt.ltL 0 (zv.cells.toList.map ofVal) = (List.replicate len (zv.cells.toList.map ofVal)).all (PV.lt.ltL 0) := by rw [hlt, hall]
          rw [hfa] at he
          have hT : NewsR m k i.size (List.replicate len (zv.cells.toList.map ofVal)) (Builtin.zeroCells zv.cells len).toList := by
            rw [← hsz]; exact zero_news (by omega) hleaf
          have hnl : (List.replicate len (zv.cells.toList.map ofVal)).length = len := by simp
          have hnr : ∀ r ∈ List.replicate len (zv.cells.toList.map ofVal), r.length = i.size := fun r hr => by rw [List.eq_of_mem_replicate hr]; simpa using hsz
          generalize hN0 : List.replicate len (zv.cells.toList.map ofVal) = news at *
          generalize hC0 : (Builtin.zeroCells zv.cells len).toList = cs at *
          cases he
          have hidx : (bl.set b (some (⟨bx.ver, bx.e, bx.flat && news.all (PV.lt.ltL 0), bx.rows.take lo ++ news ++ bx.rows.drop (lo + len)⟩ : Blk)))[b]? = some (some ⟨bx.ver, bx.e, bx.flat && news.all (PV.lt.ltL 0), bx.rows.take lo ++ news ++ bx.rows.drop (lo + len)⟩) := List.getElem?_set_self hblt
          have hoth : ∀ j, j ≠ b → (bl.set b (some (⟨bx.ver, bx.e, bx.flat && news.all (PV.lt.ltL 0), bx.rows.take lo ++ news ++ bx.rows.drop (lo + len)⟩ : Blk)))[j]? = bl[j]? := fun j hj => List.getElem?_set_ne (fun e => hj e.symm)
          have hrowl : ∀ r ∈ bx.rows.take lo ++ news ++ bx.rows.drop (lo + len), r.length = bx.e := fun r hr => by
            rcases List.mem_append.1 hr with hr | hr
            · rcases List.mem_append.1 hr with hr | hr
              · exact hat.rowl r (List.mem_of_mem_take hr)
              · rw [hee]; exact hnr r hr
            · exact hat.rowl r (List.mem_of_mem_drop hr)
          have hcount : (bx.rows.take lo ++ news ++ bx.rows.drop (lo + len)).length = bx.rows.length := by simp; omega
          have hmk : MLe k m (m.addBlk b inf) := ⟨fun _ _ _ h => h, fun b' i' hb hi' => by
            by_cases e : b' = b
            · subst e; rw [g2] at hi'; cases hi'; exact ⟨_, Mem.addBlk_same _ _ _, .inl rfl⟩
            · exact ⟨i', by simpa [Mem.addBlk, e] using hi', .inl rfl⟩⟩
          by_cases hz0 : len = 0
          · subst hz0
            have hnn : news = [] := List.length_eq_zero_iff.1 hnl
            have hsame : bx.rows.take lo ++ news ++ bx.rows.drop (lo + 0) = bx.rows := by rw [hnn]; simp
            have hvs : ∃ a0 c0, vs = .slice a0 0 c0 := by
              rcases hov with ⟨hz1, _, ad, rfl⟩ | ⟨hv, cap, rfl, _⟩
              · exact ⟨ad, 0, rfl⟩
              · exact ⟨_, _, rfl⟩
            have stay : (execOp a.eval o).run P w = .ok (.value (.tuple #[])) w := by
              obtain ⟨a0, c0, rfl⟩ := hvs
              rw [hex]
              cases a0 <;> simp [builtin, Builtin.clear_, run_underlying ht]
            refine wp_of_run stay (hn _ (m.addBlk b inf) _ k (EffOut.put inf hin hidx hoth (Nat.le_refl _) (by simp) (fun _ _ _ => rfl) (Below.refl _ _) (fun i' _ hi' => .inl (by rw [g2] at hi'; cases hi'; rfl)) ⟨hat.ver, hat.e, by rw [hat.n, hcount], hrowl, ?_, hat.ne⟩ (fun hv => .inr ⟨bx, inf, hbl, g2, hv, rfl⟩) .top))
            have hmem := (hat.mono hmk (Nat.le_refl _) (fun _ => rfl)).mem
            rw [hsame]
            rcases hmem with hm | ⟨hv, cur, ty, a1, a2, a3, a4, a5⟩
            · exact .inl hm
            · refine .inr ⟨hv, cur, ty, a1, a2, a3, a4, ?_⟩
              cases hfl : bx.flat
              · rw [hfl] at a5; simpa using a5
              · rw [hfl] at a5
                simp only [if_true] at a5
                simp only [Bool.true_and]
                split
                · exact a5
                · exact a5.mono (MLe.refl _ _) (Nat.zero_le _)
          · rcases hov with ⟨hz1, hz2, ad, hvs⟩ | ⟨hv, cap, hvs, q1, q2, q3⟩
            · omega
            · rcases hat.mem with ⟨hv', _⟩ | ⟨_, cur, ty, m1, m2, m3, m4, m5⟩
              · rw [hv] at hv'; cases hv'
              · have hie : inf.e = i.size := by rw [hat.e, hee]
                have hinn := hat.n
                rw [hie] at m2 hvs
                rw [hee] at m5
                have hcl : cs.length = len * i.size := by rw [hT.len, hnl]
                have hfit : lo * i.size + cs.length ≤ cur.size := by
                  rw [hcl, m2, ← Nat.add_mul]
                  exact Nat.mul_le_mul_right _ (by omega)
                have hst := run_storeCells_at P inf.g (lo * i.size) ty cs 0 cur w m1 (by simpa using hfit) hT.one
                simp only [Nat.add_zero] at hst
                have hrun : (execOp a.eval o).run P w = .ok (.value (.tuple #[])) (w.setRow inf.g (cur.toList.take (lo * i.size) ++ cs ++ cur.toList.drop (lo * i.size + cs.length)).toArray) := by
                  rw [hex, hvs]
                  obtain ⟨q, rfl⟩ : ∃ q, len = q + 1 := ⟨len - 1, by omega⟩
                  simp [builtin, Builtin.clear_, run_underlying ht, zeroValue, typeInfo, hi, hzv, hC0, hst]
                refine wp_of_run hrun (hn _ (m.addBlk b inf) _ k (EffOut.put inf hin hidx hoth (Nat.le_refl _) (by simp) (fun b' _ hb' => setRow_other _ _ _ _ (hb' bx inf hbl g2 hv)) (below_setRow _ (hin.own.base b bx inf hbl g2 hv).1) (fun i' _ hi' => .inl (by rw [g2] at hi'; cases hi'; rfl)) ⟨hat.ver, hat.e, by rw [hat.n, hcount], hrowl, .inr ⟨hv, _, ty, setRow_heap w _ cur _ ty _ m1, by rw [splice_size hfit, hie]; exact m2, m3, m4, ?_⟩, hat.ne⟩ (fun _ => .inr ⟨bx, inf, hbl, g2, hv, rfl⟩) .top))
                have hsp := rows_splice (e := i.size) (a := lo) (fl := bx.flat) (k' := k) (cur' := (cur.toList.take (lo * i.size) ++ cs ++ cur.toList.drop (lo * i.size + cs.length)).toArray) m5 hT hmk (Nat.le_refl _) (by omega) (fun r hr => by rw [← hee]; exact hat.rowl r hr) (fun t ht => by
                    rw [splice_get hfit, if_pos ht]) (fun s hs => by
                    rw [splice_get hfit, if_neg (by omega), if_pos (by omega), Nat.add_sub_cancel_left]) (fun t h1 h2 => by
                    rw [splice_get hfit, if_neg (by omega), if_neg (by omega)])
                rw [hnl] at hsp
                rw [hee]
                exact hsp
        · cases he
      · cases he
    · cases he
  · cases hd

/-- a call upon the caller's blocks -/
theorem eff_call (hc : CallOk P call) {c : Call} {g : Nat} (h : o.op = .call c) (hcal : c.callee = .value (.func g)) : EffSound P call own o := by
  intro ao B k m w sl bl bl' a p next Q hd he hl hin hn
  simp only [digOp, h, hcal] at hd
  have hopt : ∀ t, Operand.tmp t ∈ c.args.toList → Operand.tmp t ∈ o.op.operands := fun t ht => by
    rw [h]; simp only [Op.operands, Call.operands, hcal]
    simp only [Array.mem_append]
    exact .inr (by simpa using ht)
  split at hd
  · rename_i args ha
    obtain ⟨h1, h2⟩ := opds (m := m) (k := k) (sl := sl) (a := a) c.args.toList args (fun t ht => hl t (hopt t ht)) ha
    have hget : ∀ (i : Nat), (c.args.map a.eval).getD i undef = (c.args.toList.map a.eval).getD i undef := fun i => by rw [getD_toList]; simp
    have hsz : (args.map (·.ev sl)).length = (c.args.map a.eval).size := by simp [h1]
    simp only [digCall] at hd
    split at hd
    · cases hd
      simp only [evEff] at he
      split at he
      · rename_i p0 bl0 hs
        split at he
        · cases he
          obtain ⟨hfn, hcall⟩ := hc.2 _ _ _ _ _ hs
          refine upon_calls (exec_value (caps := #[]) hcal h rfl hfn) ?_
          rw [Array.append_empty]
          refine (hcall B k m w (c.args.map a.eval) hsz (fun i p hp => by rw [hget]; exact h2 i p hp) hin).mono ?_
          rintro e w' ⟨v, m', k', he, hout⟩
          exact ⟨v, he, hn v m' w' k' hout⟩
        · cases he
      · cases he
    · cases hd
      simp [evEff] at he
  · cases hd

theorem digArr_eff {t : TypeId} {z : List PV} {ao : AOp} (h : digArr P t z = some ao) : ao.isEff = false := by
  unfold digArr at h
  split at h
  · split at h
    · split at h
      · cases h; rfl
      · cases h
    · cases h
  · cases h

/-- every operation that changes a block does what its pure reading says -/
theorem eff_sound (hc : CallOk P call) (o : Oper) : EffSound P call own o := by
  intro ao B k m w sl bl bl' a p next Q hd he hl hin hn
  have hcases : (∃ t x y, o.op = .store t x y) ∨ (∃ c, o.op = .call c ∧ c.callee = .builtin .append) ∨ (∃ c, o.op = .call c ∧ c.callee = .builtin .copy) ∨ (∃ c, o.op = .call c ∧ c.callee = .builtin .clear) ∨ (∃ c g, o.op = .call c ∧ c.callee = .value (.func g)) ∨ (∃ t x y z, o.op = .mapUpdate t x y z ∨ o.op = .insert t x y z) ∨ (∃ c, o.op = .call c ∧ c.callee = .builtin .delete) := by
    have hk : ao.isEff = true := by
      cases ao <;> first | rfl | (simp [evEff] at he; done)
    cases h : o.op with
    | store t x y => exact .inl ⟨_, _, _, rfl⟩
    | mapUpdate t x y z => exact .inr (.inr (.inr (.inr (.inr (.inl ⟨_, _, _, _, .inl rfl⟩)))))
    | insert t x y z => exact .inr (.inr (.inr (.inr (.inr (.inl ⟨_, _, _, _, .inr rfl⟩)))))
    | call c =>
      cases hcal : c.callee with
      | builtin b =>
        cases b with
        | append => exact .inr (.inl ⟨c, rfl, hcal⟩)
        | copy => exact .inr (.inr (.inl ⟨c, rfl, hcal⟩))
        | clear => exact .inr (.inr (.inr (.inl ⟨c, rfl, hcal⟩)))
        | delete => exact .inr (.inr (.inr (.inr (.inr (.inr ⟨c, rfl, hcal⟩)))))
        | len =>
          exfalso
          simp only [digOp, h, hcal] at hd
          split at hd
          · simp only [digBuiltin] at hd
            repeat' split at hd
            all_goals first | contradiction | (cases hd; simp [AOp.isEff] at hk; done) | (cases hd; done) | simp_all
          · cases hd
        | cap =>
          exfalso
          simp only [digOp, h, hcal] at hd
          split at hd
          · simp only [digBuiltin] at hd
            repeat' split at hd
            all_goals first | contradiction | (cases hd; simp [AOp.isEff] at hk; done) | (cases hd; done) | simp_all
          · cases hd
        | min =>
          exfalso
          simp only [digOp, h, hcal] at hd
          split at hd
          · simp only [digBuiltin] at hd
            cases hd; simp [AOp.isEff] at hk
          · cases hd
        | max =>
          exfalso
          simp only [digOp, h, hcal] at hd
          split at hd
          · simp only [digBuiltin] at hd
            cases hd; simp [AOp.isEff] at hk
          · cases hd
        | _ =>
          exfalso
          simp only [digOp, h, hcal] at hd
          split at hd
          · simp [digBuiltin] at hd
          · cases hd
      | value f =>
        cases f with
        | func g => exact .inr (.inr (.inr (.inr (.inl ⟨c, g, rfl, hcal⟩))))
        | _ =>
          exfalso
          simp only [digOp, h, hcal] at hd
          split at hd
          · simp only [digCall] at hd <;> cases hd <;> simp [AOp.isEff] at hk
          · cases hd
      | invoke r n =>
        exfalso
        simp only [digOp, h, hcal] at hd
        split at hd <;> cases hd
    | alloc t =>
      exfalso
      simp only [digOp, h] at hd
      split at hd
      · split at hd
        · split at hd
          · rename_i a' ha'
            cases hd
            rw [digArr_eff ha'] at hk
            cases hk
          · cases hd; simp [AOp.isEff] at hk
        · cases hd; simp [AOp.isEff] at hk
      · cases hd
    | _ =>
      exfalso
      simp only [digOp, h] at hd
      first
        | (cases hd; done)
        | (repeat' split at hd
           all_goals first | (cases hd; simp [AOp.isEff] at hk; done) | (cases hd; done) | simp_all)
  rcases hcases with ⟨t, x, y, h⟩ | ⟨c, h, hcal⟩ | ⟨c, h, hcal⟩ | ⟨c, h, hcal⟩ | ⟨c, g, h, hcal⟩ | ⟨t, x, y, z, h⟩ | ⟨c, h, hcal⟩
  · exact eff_store h ao B k m w sl bl bl' a p next Q hd he hl hin hn
  · exact eff_append h hcal ao B k m w sl bl bl' a p next Q hd he hl hin hn
  · exact eff_copy h hcal ao B k m w sl bl bl' a p next Q hd he hl hin hn
  · exact eff_clear h hcal ao B k m w sl bl bl' a p next Q hd he hl hin hn
  · exact eff_call hc h hcal ao B k m w sl bl bl' a p next Q hd he hl hin hn
  · exact eff_mset h ao B k m w sl bl bl' a p next Q hd he hl hin hn
  · exact eff_mdel h hcal ao B k m w sl bl bl' a p next Q hd he hl hin hn

end
end Go.Proofs.Ytlnaibkpmklkiaa
