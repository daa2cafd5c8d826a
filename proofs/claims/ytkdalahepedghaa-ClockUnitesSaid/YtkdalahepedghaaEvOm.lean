/- Maps: written. -/
import Derived.Test.YtkdalahepedghaaEvO
namespace Go.Proofs.Ytkdalahepedghaa
open Go Go.RowKit
set_option linter.unusedSectionVars false
variable [Bs]
set_option linter.unusedVariables false
set_option linter.unusedSimpArgs false

section
variable {P : Program} {call : Cl} {own : List Nat} {o : Oper}

theorem same_cell {m : Mem} {k k' : Nat} {c : KK} {p q : PV} {u v : Value} (hp : Rep m k p u) (hq : Rep m k' q v) (h : eq1 c p q = some true) (n : Nat) : Instr.sameBits n u v = true := by
  cases c <;> cases p <;> cases q <;> simp [eq1] at h
  · rw [bool_inv hp, bool_inv hq]; simp [Instr.sameBits, h]
  · rw [int_inv hp, int_inv hq]; simp [Instr.sameBits, h]
  · obtain ⟨s1, rfl, e1⟩ := str_inv hp
    obtain ⟨s2, rfl, e2⟩ := str_inv hq
    simp only [Instr.sameBits]
    rw [beq_toListBytes, bytes_toList, bytes_toList, e1, e2, h]
    simp

theorem same_cells {m : Mem} {k k' : Nat} : ∀ {ks : List KK} {ps qs : List PV} {us vs : List Value}, eqL ks ps qs = some true → us.length = ps.length → vs.length = qs.length → (∀ i p, ps[i]? = some p → Rep m k p (us.getD i undef)) → (∀ i p, qs[i]? = some p → Rep m k' p (vs.getD i undef)) → ∀ n,
    (us.zip vs).all (fun (x, y) => Instr.sameBits n x y) = true
  | [], ps, qs, us, vs, h, h1, h2, hp, hq, n => by
    obtain ⟨e1, e2⟩ := eqL_len h
    have : us = [] := List.length_eq_zero_iff.1 (by rw [h1, e1]; rfl)
    subst this
    simp
  | c :: ks, p :: ps, q :: qs, u :: us, v :: vs, h, h1, h2, hp, hq, n => by
    simp only [eqL] at h
    split at h
    · rename_i x y hx hy
      cases x <;> cases y <;> simp at h
      have r1 := hp 0 p rfl
      have r2 := hq 0 q rfl
      simp only [List.zip_cons_cons, List.all_cons, Bool.and_eq_true]
      exact ⟨same_cell r1 r2 hx n, same_cells hy (by simpa using h1) (by simpa using h2) (fun i p h => by simpa using hp (i + 1) p (by simpa using h)) (fun i p h => by simpa using hq (i + 1) p (by simpa using h)) n⟩
    · cases h
  | c :: ks, [], qs, us, vs, h, _, _, _, _, _ => by simp [eqL] at h
  | c :: ks, _ :: _, [], us, vs, h, _, _, _, _, _ => by simp [eqL] at h
  | c :: ks, _ :: _, _ :: _, [], vs, h, h1, _, _, _, _ => by simp at h1
  | c :: ks, _ :: _, _ :: _, _ :: _, [], h, _, h2, _, _, _ => by simp at h2

theorem stays_run {m : Mem} {k k' : Nat} {w : World} {ks : List KK} {ag : Bool} {p q : PV} {u v : Value} {kc cs : List PV} (hp : Rep m k p u) (hq : Rep m k' q v) (h1 : keyC ag p = some kc) (h2 : keyC ag q = some cs) (h : eqL ks kc cs = some true) (hag : ag = false → ∃ c, ks = [c]) :
    (Instr.keyThatStays v u).run P w = .ok u w := by
  have hs : Instr.sameBits 10000 v u = true := by
    -- the comparison the other way round
    have sym : ∀ {ks : List KK} {as bs : List PV}, eqL ks as bs = some true → eqL ks bs as = some true := by
      intro ks
      induction ks with
      | nil => intro as bs h; obtain ⟨e1, e2⟩ := eqL_len h; rw [List.length_eq_zero_iff.1 e1, List.length_eq_zero_iff.1 e2]; rfl
      | cons c ks ih =>
        intro as bs h
        cases as with
        | nil => simp [eqL] at h
        | cons a as =>
          cases bs with
          | nil => simp [eqL] at h
          | cons b bs =>
            simp only [eqL] at h ⊢
            split at h
            · rename_i x y hx hy
              cases x <;> cases y <;> simp at h
              have h3 : eq1 c b a = some true := by
                cases c <;> cases a <;> cases b <;> simp [eq1] at hx ⊢ <;> first | exact hx.symm | exact ⟨hx.1.symm, hx.2.symm⟩
              rw [h3, ih hy]
              rfl
            · cases h
    have h' := sym h
    have s1 := keyC_scal h1
    have s2 := keyC_scal h2
    cases ag with
    | true =>
      simp [scal] at s1 s2
      subst s1 s2
      obtain ⟨us, rfl, a1, a2⟩ := agg_inv hp
      obtain ⟨vs, rfl, b1, b2⟩ := agg_inv hq
      have hl := eqL_len h'
      simp only [Instr.sameBits, Bool.and_eq_true, beq_iff_eq]
      refine ⟨by omega, ?_⟩
      exact same_cells h' (by simpa using b1.symm) (by simpa using a1.symm) (fun i p hp => by rw [← getD_toList]; exact b2 i p hp) (fun i p hp => by rw [← getD_toList]; exact a2 i p hp) 9999
    | false =>
      obtain ⟨c, hc⟩ := hag rfl
      obtain ⟨x, y, rfl, rfl, hxy⟩ := scal_one hc h'
      simp [scal] at s1 s2
      subst s1 s2
      exact same_cell hq hp hxy 10000
  simp [Instr.keyThatStays, hs]

theorem lt_two {k : Nat} {a b : PV} (h : PV.lt.ltL k [a, b] = true) : a.lt k = true ∧ b.lt k = true := by simpa [PV.lt.ltL] using h

theorem mapSet_run {t K E : TypeId} {r : Nat} {es : Array MapEntry} {clock : Nat} {w : World} {key val : Value} (hu : P.underlying t = some (.map K E)) (hb : w.heap[r]? = some (.map es clock)) (hchk : (Instr.checkKey false 10000 K key).run P w = .ok () w)
    {r' : Option (Nat × Value)} (hf : (Instr.findKey K key es.toList).run P w = .ok r' w) (hst : ∀ i v, r' = some (i, v) → ∃ e, es[i]? = some e ∧ (Instr.keyThatStays e.key key).run P w = .ok key w) :
    (Instr.mapUpdate t (.map (some r)) key val).run P w = .ok () { w with heap := w.heap.setIfInBounds r (match r' with | some (i, _) => .map (es.modify i fun e => { e with key := key, val := val }) clock | none => .map (es.push { key := key, val := val, born := clock }) (clock + 1)) } := by
  cases r' with
  | none => simp [Instr.mapUpdate, run_underlying hu, MapKept.run_getObj_map hb, hchk, hf, MapKept.run_setObj_map _ hb, Result.andThen]
  | some q =>
    obtain ⟨i, v⟩ := q
    obtain ⟨e, h1, h2⟩ := hst i v rfl
    simp [Instr.mapUpdate, run_underlying hu, MapKept.run_getObj_map hb, hchk, hf, h1, h2, MapKept.run_setObj_map _ hb, Result.andThen]

theorem born_modify {es : Array MapEntry} {clock : Nat} (h : BornOk es clock) (i : Nat) (f : MapEntry → MapEntry) (hf : ∀ e, (f e).born = e.born) : BornOk (es.modify i f) clock := by
  have hm : (es.modify i f).toList.map (·.born) = es.toList.map (·.born) := by
    apply List.ext_getElem?
    intro j
    simp only [List.getElem?_map, Array.getElem?_toList, Array.getElem?_modify]
    split
    · cases es[j]? with
      | none => rfl
      | some e => simp [hf]
    · rfl
  refine ⟨fun e he => ?_, by rw [hm]; exact h.2⟩
  have : e.born ∈ (es.modify i f).toList.map (·.born) := List.mem_map.2 ⟨e, he, rfl⟩
  rw [hm] at this
  obtain ⟨e', he', hb⟩ := List.mem_map.1 this
  have := h.1 e' he'
  have hb : e'.born = e.born := hb
  omega
theorem born_push {es : Array MapEntry} {clock : Nat} (h : BornOk es clock) (k v : Value) : BornOk (es.push ⟨k, v, clock⟩) (clock + 1) := by
  refine ⟨fun e he => ?_, ?_⟩
  · simp at he
    rcases he with he | rfl
    · have := h.1 e (by simpa using he); omega
    · simp
  · simp only [Array.toList_push, List.map_append, List.map_cons, List.map_nil]
    rw [List.nodup_append]
    refine ⟨h.2, by simp, fun a ha b hb => ?_⟩
    simp at hb
    obtain ⟨e, he, rfl⟩ := List.mem_map.1 ha
    have := h.1 e he
    omega
theorem erase_toList {es : Array MapEntry} {i : Nat} : (es.eraseIdxIfInBounds i).toList = es.toList.eraseIdx i := by
  unfold Array.eraseIdxIfInBounds
  split
  · simp
  · rename_i hc
    rw [List.eraseIdx_of_length_le (by simpa using hc)]
theorem born_erase {es : Array MapEntry} {clock : Nat} (h : BornOk es clock) (i : Nat) : BornOk (es.eraseIdxIfInBounds i) clock := by
  have hl := erase_toList (es := es) (i := i)
  refine ⟨fun e he => ?_, ?_⟩
  · rw [hl] at he
    exact h.1 e (List.mem_of_mem_eraseIdx he)
  · rw [hl]
    exact ((List.eraseIdx_sublist _ _).map _).nodup h.2

theorem eff_mset {t : TypeId} {x y z : Operand} (h : o.op = .mapUpdate t x y z ∨ o.op = .insert t x y z) : EffSound P call own o := by
  intro ao B k m w sl bl bl' a p next Q hd he hl hin hn
  have hd' : digSet P t x y z = some ao := by
    rcases h with h | h <;> (simp only [digOp, h] at hd; exact hd)
  have hops : ∀ s, (x = .tmp s ∨ y = .tmp s ∨ z = .tmp s) → Operand.tmp s ∈ o.op.operands := by
    intro s hs
    rcases h with h | h <;> rw [h] <;> simp [Op.operands] <;> rcases hs with rfl | rfl | rfl <;> simp
  have hex : ∀ w', (Instr.mapUpdate t (a.eval x) (a.eval y) (a.eval z)).run P w = .ok () w' → (execOp a.eval o).run P w = .ok .skip w' := by
    intro w' hr
    rcases h with h | h <;> simp [execOp, h, hr]
  unfold digSet at hd'
  split at hd'
  · rename_i K E am ak av hu hm hk hv
    split at hd'
    · rename_i ks ag hks hag
      cases hd'
      have rx := opd (a := a) (m := m) (k := k) (sl := sl) hm (fun t ht => hl t (hops t (.inl ht)))
      have ry := opd (a := a) (m := m) (k := k) (sl := sl) hk (fun t ht => hl t (hops t (.inr (.inl ht))))
      have rz := opd (a := a) (m := m) (k := k) (sl := sl) hv (fun t ht => hl t (hops t (.inr (.inr ht))))
      simp only [evEff] at he
      split at he
      · rename_i kc b ver hkc hvx
        split at he
        · rename_i bx hgm
          split at he
          · rename_i hself
            have hchk := check_run (P := P) (w := w) 8 K ks hks 10000 (by omega) false hag (keyC_scal hkc) ry hself
            have hsing : ag = false → ∃ c, ks = [c] := fun hf => by
              obtain ⟨g', hg', hleaf⟩ := flatT_agg hks
              rw [hag] at hg'
              cases hg'
              obtain ⟨c, hc, _⟩ := hleaf hf
              exact ⟨c, hc⟩
            rw [hvx] at rx
            obtain ⟨inf, g1, g2, g3, g4, g5⟩ := mp_inv rx
            obtain ⟨q1, q2, q3⟩ := getM_spec hgm
            have hat := (hin.own.at_ b bx inf q1 g2).map q3
            obtain ⟨es, clock, e1, e2, e5⟩ := hat.mem
            have hav : a.eval x = .map (some inf.g) := g5 (hat.ver.trans q2)
            have hlt : b < bl.length := (List.getElem?_eq_some_iff.1 q1).1
            have hgl : inf.g < w.heap.size := (Array.getElem?_eq_some_iff.1 e1).1
            have hent : EntR m k bx.rows es.toList := ⟨by simpa using e2.1, fun r row hr => by
              obtain ⟨kp, vp, e, f1, f2, f3, f4⟩ := e2.2 r row hr
              refine ⟨kp, vp, e, f1, by simpa using f2, ?_, ?_⟩
              · split at f3
                · exact f3.up (Nat.zero_le _)
                · exact f3
              · split at f4
                · exact f4.up (Nat.zero_le _)
                · exact f4⟩
            -- the new world
            have fin : ∀ (rows' : List (List PV)) (es' : Array MapEntry) (clock' : Nat), bl' = bl.set b (some ⟨bx.ver, bx.e, bx.flat && PV.lt.ltL 0 [ak.ev sl, av.ev sl], rows'⟩) →
                MapIn m (if (bx.flat && PV.lt.ltL 0 [ak.ev sl, av.ev sl]) = true then 0 else k) rows' es' → BornOk es' clock' → p = .top →
                EffOut B k m w bl bl' .top undef (m.addBlk b inf) { w with heap := w.heap.setIfInBounds inf.g (.map es' clock') } k := by
              intro rows' es' clock' hbl' hin' hbo _
              subst hbl'
              have hset := MapKept.heap_set (o' := Obj.map es' clock') e1
              have hsame : m.addBlk b inf = m := by
                unfold Mem.addBlk
                congr 1
                funext j
                split
                · rename_i hj; rw [hj, g2]
                · rfl
              refine EffOut.putA (x' := ⟨bx.ver, bx.e, bx.flat && PV.lt.ltL 0 [ak.ev sl, av.ev sl], rows'⟩) inf hin (by simp [hlt]) (fun j hj => by rw [List.getElem?_set_ne (fun e => hj e.symm)]) (Nat.le_refl _) (by simp)
                (fun b' _ hb' => hset.2 b' (hb' bx inf q1 g2 hat.virt)) ⟨rfl, rfl, rfl, by simp, fun j hj => hset.2 j (by have := (hin.own.base b bx inf q1 g2 hat.virt).1; omega)⟩ (fun i _ hi => .inl (by rw [g2] at hi; cases hi; rfl))
                (.inr (.inl ⟨hat.ver, q3, hat.virt, es', clock', hset.1, ?_, hbo⟩)) (fun _ => .inr ⟨bx, inf, q1, g2, hat.virt, rfl⟩) .top
              rw [hsame]
              exact hin'
            have hdown : ∀ {kp vp : PV} {u v : Value} {r : Nat} {row : List PV}, bx.rows[r]? = some row → row = [kp, vp] → Rep m (if bx.flat = true then 0 else k) kp u → Rep m (if bx.flat = true then 0 else k) vp v →
                Rep m (if (bx.flat && PV.lt.ltL 0 [ak.ev sl, av.ev sl]) = true then 0 else k) kp u ∧ Rep m (if (bx.flat && PV.lt.ltL 0 [ak.ev sl, av.ev sl]) = true then 0 else k) vp v := by
              intro kp vp u v r row _ _ h1 h2
              cases hfl : bx.flat
              · rw [hfl] at h1 h2
                simpa using ⟨h1, h2⟩
              · rw [hfl] at h1 h2
                simp only [if_true] at h1 h2
                exact ⟨h1.up (Nat.zero_le _), h2.up (Nat.zero_le _)⟩
            have hnew : Rep m (if (bx.flat && PV.lt.ltL 0 [ak.ev sl, av.ev sl]) = true then 0 else k) (ak.ev sl) (a.eval y) ∧ Rep m (if (bx.flat && PV.lt.ltL 0 [ak.ev sl, av.ev sl]) = true then 0 else k) (av.ev sl) (a.eval z) := by
              split
              · rename_i hc
                simp only [Bool.and_eq_true] at hc
                obtain ⟨l1, l2⟩ := lt_two hc.2
                exact ⟨ry.down l1, rz.down l2⟩
              · exact ⟨ry, rz⟩
            split at he
            · -- it is there
              rename_i i vq hfind
              cases he
              obtain ⟨r', f1, f2⟩ := find_key (w := w) hks hag ry hkc hent hfind
              cases r' with
              | none => exact f2.elim
              | some q =>
                obtain ⟨j, v0⟩ := q
                obtain ⟨rfl, _, e, kp, cs, c1, c2, c3, c4, c5, c6⟩ := f2
                have c1' : es[i]? = some e := by simpa using c1
                have hil : i < es.size := (Array.getElem?_eq_some_iff.1 c1').1
                have hrun := mapSet_run (P := P) (val := a.eval z) hu e1 hchk f1 (fun i' v' hq => by
                  cases hq
                  exact ⟨e, c1', stays_run ry c4 hkc c5 c6 hsing⟩)
                refine wp_of_skip (hex _ (by rw [hav]; exact hrun)) (hn _ _ _ _ (fin _ _ _ rfl ⟨by simp [e2.1], fun r row hr => ?_⟩ (born_modify e5 i (fun e => { key := a.eval y, val := a.eval z, born := e.born }) (fun _ => rfl)) rfl))
                rw [List.getElem?_set] at hr
                by_cases hri : i = r
                · subst hri
                  simp only [if_true] at hr
                  split at hr
                  · cases hr
                    refine ⟨_, _, ⟨a.eval y, a.eval z, e.born⟩, rfl, ?_, hnew.1, hnew.2⟩
                    rw [Array.getElem?_modify, if_pos rfl, c1']
                    rfl
                  · cases hr
                · rw [if_neg hri] at hr
                  obtain ⟨kp, vp, e', d1, d2, d3, d4⟩ := e2.2 r row hr
                  obtain ⟨n1, n2⟩ := hdown hr d1 d3 d4
                  exact ⟨kp, vp, e', d1, by rw [Array.getElem?_modify, if_neg hri]; exact d2, n1, n2⟩
            · -- it is new
              rename_i hfind
              cases he
              obtain ⟨r', f1, f2⟩ := find_key (w := w) hks hag ry hkc hent hfind
              cases r' with
              | some q => exact f2.elim
              | none =>
                have hrun := mapSet_run (P := P) (val := a.eval z) hu e1 hchk f1 (fun i' v' hq => by cases hq)
                refine wp_of_skip (hex _ (by rw [hav]; exact hrun)) (hn _ _ _ _ (fin _ _ _ rfl ⟨by simp [e2.1], fun r row hr => ?_⟩ (born_push e5 _ _) rfl))
                rcases Nat.lt_trichotomy r bx.rows.length with hc | hc | hc
                · rw [List.getElem?_append_left hc] at hr
                  obtain ⟨kp, vp, e', d1, d2, d3, d4⟩ := e2.2 r row hr
                  obtain ⟨n1, n2⟩ := hdown hr d1 d3 d4
                  exact ⟨kp, vp, e', d1, by rw [Array.getElem?_push_lt (by rw [e2.1]; exact hc)]; rw [← d2, Array.getElem?_eq_getElem (by rw [e2.1]; exact hc)], n1, n2⟩
                · subst hc
                  simp at hr
                  subst hr
                  exact ⟨_, _, ⟨a.eval y, a.eval z, clock⟩, rfl, by rw [← e2.1]; simp, hnew.1, hnew.2⟩
                · rw [List.getElem?_eq_none (by simp; omega)] at hr; cases hr
            · cases he
          · cases he
        · cases he
      · cases he
    · cases hd'
  · cases hd'
theorem digDel_spec {args : List AO} {tys : List TypeId} {ao : AOp} (h : digBuiltin P .delete args tys = some ao) :
    ∃ am ak t u K E ks ag, args = [am, ak] ∧ tys = [t, u] ∧ P.underlying t = some (.map K E) ∧ flatT P 8 K = some ks ∧ aggB P K = some ag ∧ ao = .mdel ks ag am ak := by
  have key : ∃ am ak t u, args = [am, ak] ∧ tys = [t, u] := by
    rcases args with _ | ⟨s, _ | ⟨x, _ | ⟨y, r⟩⟩⟩ <;> rcases tys with _ | ⟨t, _ | ⟨u, _ | ⟨v, q⟩⟩⟩ <;> first
      | exact ⟨_, _, _, _, rfl, rfl⟩
      | (simp [digBuiltin] at h; done)
  obtain ⟨am, ak, t, u, rfl, rfl⟩ := key
  simp only [digBuiltin] at h
  split at h
  · rename_i K E hu
    split at h
    · rename_i ks ag h1 h2
      cases h
      exact ⟨am, ak, t, u, K, E, ks, ag, rfl, rfl, hu, h1, h2, rfl⟩
    · cases h
  · cases h

theorem eff_mdel {c : Call} (h : o.op = .call c) (hcal : c.callee = .builtin .delete) : EffSound P call own o := by
  intro ao B k m w sl bl bl' a p next Q hd he hl hin hn
  simp only [digOp, h, hcal] at hd
  split at hd
  · rename_i args hargs
    obtain ⟨am, ak, t, u, K, E, ks, ag, rfl, hty, hu, hks, hag, rfl⟩ := digDel_spec hd
    obtain ⟨h1, h2⟩ := opds (m := m) (k := k) (sl := sl) (a := a) c.args.toList _ (fun t ht => hl t (call_ops hcal h t ht)) hargs
    have hlen : c.args.toList.length = 2 := by simpa using h1.symm
    obtain ⟨o1, o2, hoo⟩ : ∃ o1 o2, c.args.toList = [o1, o2] := by
      cases hq : c.args.toList with
      | nil => rw [hq] at hlen; simp at hlen
      | cons o1 r => cases r with
        | nil => rw [hq] at hlen; simp at hlen
        | cons o2 r => cases r with
          | nil => exact ⟨o1, o2, rfl⟩
          | cons o3 r => rw [hq] at hlen; simp at hlen
    have hca : c.args = #[o1, o2] := by rw [← Array.toArray_toList (xs := c.args), hoo]
    have hct : c.argTypes = #[t, u] := by rw [← Array.toArray_toList (xs := c.argTypes), hty]
    rw [hoo] at h2
    have rx : Rep m k (am.ev sl) (a.eval o1) := by simpa using h2 0 _ rfl
    have ry : Rep m k (ak.ev sl) (a.eval o2) := by simpa using h2 1 _ rfl
    simp only [evEff] at he
    split at he
    · rename_i kc b ver hkc hvx
      split at he
      · rename_i bx hgm
        split at he
        · rename_i hself
          have hchk : ∀ em, (Instr.checkKey em 10000 K (a.eval o2)).run P w = .ok () w := fun em => check_run (P := P) (w := w) 8 K ks hks 10000 (by omega) em hag (keyC_scal hkc) ry hself
          rw [hvx] at rx
          obtain ⟨inf, g1, g2, g3, g4, g5⟩ := mp_inv rx
          obtain ⟨q1, q2, q3⟩ := getM_spec hgm
          have hat := (hin.own.at_ b bx inf q1 g2).map q3
          obtain ⟨es, clock, e1, e2, e5⟩ := hat.mem
          have hav : a.eval o1 = .map (some inf.g) := g5 (hat.ver.trans q2)
          have hlt : b < bl.length := (List.getElem?_eq_some_iff.1 q1).1
          have hgl : inf.g < w.heap.size := (Array.getElem?_eq_some_iff.1 e1).1
          have hent : EntR m k bx.rows es.toList := ⟨by simpa using e2.1, fun r row hr => by
            obtain ⟨kp, vp, e, f1, f2, f3, f4⟩ := e2.2 r row hr
            refine ⟨kp, vp, e, f1, by simpa using f2, ?_, ?_⟩
            · split at f3
              · exact f3.up (Nat.zero_le _)
              · exact f3
            · split at f4
              · exact f4.up (Nat.zero_le _)
              · exact f4⟩
          have hsame : m.addBlk b inf = m := by
            unfold Mem.addBlk
            congr 1
            funext j
            split
            · rename_i hj; rw [hj, g2]
            · rfl
          have fin : ∀ (rows' : List (List PV)) (es' : Array MapEntry), bl' = bl.set b (some ⟨bx.ver, bx.e, bx.flat, rows'⟩) →
              MapIn m (if bx.flat = true then 0 else k) rows' es' → BornOk es' clock → p = .top →
              EffOut B k m w bl bl' .top (.tuple #[]) (m.addBlk b inf) { w with heap := w.heap.setIfInBounds inf.g (.map es' clock) } k := by
            intro rows' es' hbl' hin' hbo _
            subst hbl'
            have hset := MapKept.heap_set (o' := Obj.map es' clock) e1
            refine EffOut.putA (x' := ⟨bx.ver, bx.e, bx.flat, rows'⟩) inf hin (by simp [hlt]) (fun j hj => by rw [List.getElem?_set_ne (fun e => hj e.symm)]) (Nat.le_refl _) (by simp)
              (fun b' _ hb' => hset.2 b' (hb' bx inf q1 g2 hat.virt)) ⟨rfl, rfl, rfl, by simp, fun j hj => hset.2 j (by have := (hin.own.base b bx inf q1 g2 hat.virt).1; omega)⟩ (fun i _ hi => .inl (by rw [g2] at hi; cases hi; rfl))
              (.inr (.inl ⟨hat.ver, q3, hat.virt, es', clock, hset.1, ?_, hbo⟩)) (fun _ => .inr ⟨bx, inf, q1, g2, hat.virt, rfl⟩) .top
            rw [hsame]
            exact hin'
          have hrun : ∀ r', (Instr.findKey K (a.eval o2) es.toList).run P w = .ok r' w → (execOp a.eval o).run P w = .ok (.value (.tuple #[])) { w with heap := w.heap.setIfInBounds inf.g (.map (match r' with | some (i, _) => es.eraseIdxIfInBounds i | none => es) clock) } := by
            intro r' hr'
            rw [exec_builtin hcal h]
            have hav' : a.eval o1 = Value.map (some inf.g) := hav
            cases r' with
            | none => simp [hca, hct, builtin, Builtin.delete_, hav', run_underlying hu, MapKept.run_getObj_map e1, hchk, hr', MapKept.run_setObj_map _ e1, Result.andThen]
            | some q => simp [hca, hct, builtin, Builtin.delete_, hav', run_underlying hu, MapKept.run_getObj_map e1, hchk, hr', MapKept.run_setObj_map _ e1, Result.andThen]
          split at he
          · rename_i i vq hfind
            cases he
            obtain ⟨r', f1, f2⟩ := find_key (w := w) hks hag ry hkc hent hfind
            cases r' with
            | none => exact f2.elim
            | some q =>
              obtain ⟨j, v0⟩ := q
              obtain ⟨rfl, _⟩ := f2
              refine wp_of_run (hrun _ f1) (hn _ _ _ _ (fin _ _ rfl ⟨?_, fun r row hr => ?_⟩ (born_erase e5 _) rfl))
              · rw [← Array.length_toList, erase_toList, List.length_eraseIdx, List.length_eraseIdx, Array.length_toList, e2.1]
              · rw [List.getElem?_eraseIdx] at hr
                rw [← Array.getElem?_toList, erase_toList, List.getElem?_eraseIdx]
                split at hr <;> rename_i hc
                · rw [if_pos hc, Array.getElem?_toList]; exact e2.2 r row hr
                · rw [if_neg hc, Array.getElem?_toList]; exact e2.2 (r + 1) row hr
          · rename_i hfind
            cases he
            obtain ⟨r', f1, f2⟩ := find_key (w := w) hks hag ry hkc hent hfind
            cases r' with
            | some q => exact f2.elim
            | none => exact wp_of_run (hrun _ f1) (hn _ _ _ _ (fin _ _ rfl e2 e5 rfl))
          · cases he
        · cases he
      · cases he
    · cases he
  · cases hd
end
end Go.Proofs.Ytkdalahepedghaa
