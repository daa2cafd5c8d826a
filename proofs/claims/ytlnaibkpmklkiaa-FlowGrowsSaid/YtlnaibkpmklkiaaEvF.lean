/- The operations that change no block: each does what its pure reading says (those that touch no memory). -/
import Derived.Test.YtlnaibkpmklkiaaEvE
namespace Go.Proofs.Ytlnaibkpmklkiaa
open Go Go.RowKit
set_option linter.unusedSectionVars false
variable [Bs]
set_option linter.unusedVariables false
set_option linter.unusedSimpArgs false

def PurSound (P : Program) (call : Cl) (own : List Nat) (o : Oper) : Prop :=
  ∀ (ao : AOp) (B k : Nat) (m : Mem) (w : World) (sl : List PV) (bl BL : Blks) (a : Act) (p : PV) (ns : List Blk) (next : Act → World → Prop) (Q : Exit → Act → World → Prop),
    digOp P own o = some ao → evPur call sl bl ao = some (p, ns) → (∀ t, .tmp t ∈ o.op.operands → Rep m k (sl.getD t .top) (a.tmps.getD t undef)) →
    PurIn B k m w bl ns BL → (∀ v m' w' k', PurOut B k m w bl.length ns.length BL p v m' w' k' → next (a.put o.dst v) w') → o.wp P a w next Q

section
variable {P : Program} {call : Cl} {own : List Nat} {o : Oper}

theorem bytes_toList (s : ByteArray) : s.toList = s.data.toList := by
  have key : ∀ (n i : Nat) (r : List UInt8), s.size - i = n → ByteArray.toList.loop s i r = r.reverse ++ s.data.toList.drop i := by
    intro n
    induction n with
    | zero =>
      intro i r h
      rw [ByteArray.toList.loop, if_neg (by omega), List.drop_of_length_le (by simpa using (by omega : s.size ≤ i))]
      simp
    | succ n ih =>
      intro i r h
      have hlt : i < s.size := by omega
      rw [ByteArray.toList.loop, if_pos hlt, ih (i + 1) _ (by omega)]
      have hd : s.data.toList.drop i = s.get! i :: s.data.toList.drop (i + 1) := by
        rw [List.drop_eq_getElem_cons (by simpa using hlt)]
        congr 1
        simp [ByteArray.get!, getElem!_pos, hlt]
      rw [hd]; simp
  have := key s.size 0 [] (by omega)
  simpa [ByteArray.toList] using this

theorem str_inv {m : Mem} {k : Nat} {l : List UInt8} {v : Value} (h : Rep m k (.str l) v) : ∃ s : ByteArray, v = .string s ∧ s.data.toList = l := by
  generalize hp : PV.str l = p at h
  cases h <;> first | (cases hp; exact ⟨_, rfl, rfl⟩) | cases hp
theorem int_inv {m : Mem} {k : Nat} {j : IntKind} {n : Int} {v : Value} (h : Rep m k (.int j n) v) : v = .int j n := by
  generalize hp : PV.int j n = p at h
  cases h <;> first | (cases hp; rfl) | cases hp
theorem bool_inv {m : Mem} {k : Nat} {b : Bool} {v : Value} (h : Rep m k (.bool b) v) : v = .bool b := by
  generalize hp : PV.bool b = p at h
  cases h <;> first | (cases hp; rfl) | cases hp
theorem agg_inv {m : Mem} {k : Nat} {ps : List PV} {v : Value} (h : Rep m k (.agg ps) v) : ∃ vs, v = .agg vs ∧ ps.length = vs.size ∧ ∀ i p, ps[i]? = some p → Rep m k p (vs.getD i undef) := by
  generalize hp : PV.agg ps = p at h
  cases h <;> first | (cases hp; exact ⟨_, rfl, by assumption, by assumption⟩) | cases hp
theorem tup_inv {m : Mem} {k : Nat} {ps : List PV} {v : Value} (h : Rep m k (.tup ps) v) : ∃ vs, v = .tuple vs ∧ ps.length = vs.size ∧ ∀ i p, ps[i]? = some p → Rep m k p (vs.getD i undef) := by
  generalize hp : PV.tup ps = p at h
  cases h <;> first | (cases hp; exact ⟨_, rfl, by assumption, by assumption⟩) | cases hp

theorem pur_mov {x : Operand} (h : o.op = .move x ∨ (o.op = .assign x ∧ isNilC x = false)) : PurSound P call own o := by
  intro ao B k m w sl bl BL a p ns next Q hd he hl hin hn
  have hex : execOp a.eval o = pure (.value (a.eval x)) := by
    rcases h with h | ⟨h, _⟩ <;> simp [execOp, h]
  have hop : ∀ t, x = .tmp t → Operand.tmp t ∈ o.op.operands := by
    rcases h with h | ⟨h, _⟩ <;> (intro t ht; simp [h, Op.operands, ht])
  cases hx : digV x with
  | none => rcases h with h | ⟨h, h2⟩ <;> simp_all [digOp]
  | some ax =>
    obtain rfl : AOp.mov ax = ao := by rcases h with h | ⟨h, h2⟩ <;> simp_all [digOp]
    simp [evPur] at he
    obtain ⟨rfl, rfl⟩ := he
    exact wp_of_run (by rw [hex]; rfl) (hn _ _ _ _ (PurOut.same hin.frz hin.own (opd hx (fun t ht => hl t (hop t ht)))))

theorem elemP_ne {t : TypeId} {x : TypeId × TypeInfo} (h : elemP P t = some x) : x.2.size < mapE := by
  unfold elemP at h
  split at h
  · split at h
    · split at h
      · rename_i hlt; cases h; simp only [mapE]; omega
      · cases h
    · cases h
  · cases h

theorem pur_nilv {x : Operand} (h : o.op = .assign x) (h2 : isNilC x = true) : PurSound P call own o := by
  intro ao B k m w sl bl BL a p ns next Q hd he hl hin hn
  simp only [digOp, h, h2, if_true] at hd
  split at hd
  · rename_i hel
    have hne := elemP_ne hel
    cases hd
    simp [evPur] at he
    obtain ⟨rfl, rfl⟩ := he
    have hx : x = .const (.slice none 0 0) := by
      unfold isNilC at h2
      split at h2
      · rfl
      · cases h2
    subst hx
    obtain ⟨h1, h3⟩ := hin.one
    refine wp_of_run (v := .slice none 0 0) (by simp [execOp, h, Act.eval]) (hn _ _ _ _ (PurOut.new ⟨0, 0, _, 0, 0, true⟩ hin.frz hin.own hin.hB h1 h3 (Below.refl _ _) ⟨rfl, rfl, rfl, by simp, .inl ⟨rfl, rfl⟩, hne⟩ (fun h => by cases h) ?_))
    exact .own (by omega) (Mem.addBlk_same _ _ _) (Nat.le_refl _) rfl (fun _ => .inl ⟨rfl, Nat.le_refl _, none, rfl⟩)
  · cases hd

theorem pur_pick {c x y : Operand} (h : o.op = .pick c x y) : PurSound P call own o := by
  intro ao B k m w sl bl BL a p ns next Q hd he hl hin hn
  simp only [digOp, h] at hd
  split at hd
  · rename_i ac ax ay hc hx hy
    cases hd
    simp only [evPur] at he
    have rc := opd (a := a) (m := m) (k := k) (sl := sl) hc (fun t ht => hl t (by simp [h, Op.operands, ht]))
    have rx := opd (a := a) (m := m) (k := k) (sl := sl) hx (fun t ht => hl t (by simp [h, Op.operands, ht]))
    have ry := opd (a := a) (m := m) (k := k) (sl := sl) hy (fun t ht => hl t (by simp [h, Op.operands, ht]))
    split at he
    · rename_i t ht
      rw [ht] at rc
      have hcv : a.eval c = .bool t := bool_inv rc
      simp at he
      obtain ⟨rfl, rfl⟩ := he
      refine wp_of_run (v := if t then a.eval x else a.eval y) (by simp [execOp, h, hcv, asBool]) (hn _ _ _ _ (PurOut.same hin.frz hin.own ?_))
      cases t
      · exact ry
      · exact rx
    · cases he
  · cases hd

theorem binP_run {op : BinOp} {P : Program} {t : TypeId} {w : World} {m : Mem} {k : Nat} {p q r : PV} {u v : Value} (h : binP op p q = some r) (hp : Rep m k p u) (hq : Rep m k q v) :
    ∃ z, (∀ x y, (eqGuard op t x y u v).run P w = .ok () w) ∧ (binOp op t u v).run P w = .ok z w ∧ Rep m k r z := by
  unfold binP at h
  split at h
  · obtain rfl := int_inv hp
    obtain rfl := int_inv hq
    rename_i k1 x1 k2 y1
    have hg : ∀ x y, (eqGuard op t x y (.int k1 x1) (.int k2 y1)).run P w = .ok () w := fun x y => by cases op <;> rfl
    split at h
    · split at h
      · cases h
        rename_i hy
        exact ⟨_, hg, by simp only [binOp, Op.shift, show ¬ y1 < 0 by omega, if_false]; rfl, .int⟩
      · cases h
    · split at h
      · cases h
        rename_i hy
        exact ⟨_, hg, by simp only [binOp, Op.shift, show ¬ y1 < 0 by omega, if_false]; rfl, .int⟩
      · cases h
    · split at h
      · rename_i hk
        subst hk
        split at h <;> first
          | (cases h; exact ⟨_, hg, by simp only [binOp, ne_eq, not_true_eq_false, if_false]; rfl, by first | exact .int | exact .bool⟩)
          | (split at h
             · cases h
             · cases h
               rename_i hz
               exact ⟨_, hg, by simp only [binOp, ne_eq, not_true_eq_false, if_false, Op.intDiv, hz]; rfl, .int⟩)
          | cases h
      · cases h
  · obtain ⟨s, rfl, rfl⟩ := str_inv hp
    obtain ⟨t', rfl, rfl⟩ := str_inv hq
    have hg : ∀ x y, (eqGuard op t x y (.string s) (.string t')).run P w = .ok () w := fun x y => by cases op <;> rfl
    split at h
    · split at h
      · cases h
        rename_i hle
        have hle' : ¬ (9223372036854775807 < (((s.size + t'.size : Nat)) : Int)) := by
          simp at hle
          simp
          omega
        refine ⟨.string (s ++ t'), hg, by simp [binOp, Op.stringOp]; omega, ?_⟩
        have : s.data.toList ++ t'.data.toList = (s ++ t').data.toList := by simp
        rw [this]
        exact .str
      · cases h
    all_goals first
      | (cases h; exact ⟨_, hg, by simp only [binOp, Op.stringOp, bytes_toList, Sem.run_pure], .bool⟩)
      | cases h
  · cases h


theorem run_equal_bool {t : TypeId} {w : World} {b1 b2 : Bool} (hu : P.underlying t = some .bool) : (Op.equal t (.bool b1) (.bool b2)).run P w = .ok (b1 == b2) w := by
  unfold Op.equal
  rw [show Op.maxDepth = 9999 + 1 from rfl]
  generalize 9999 = d
  rw [Op.equalIn]
  simp only [Sem.run_bind, run_underlying hu, Result.andThen_ok]
  rfl
theorem run_beq {t : TypeId} {w : World} {b1 b2 : Bool} (hu : P.underlying t = some .bool) : (binOp .eql t (.bool b1) (.bool b2)).run P w = .ok (.bool (b1 == b2)) w := by
  have := run_equal_bool (P := P) (w := w) (b1 := b1) (b2 := b2) hu
  show (do pure (Value.bool (← Op.equal t (.bool b1) (.bool b2))) : Sem Value).run P w = _
  simp only [Sem.run_bind, this, Result.andThen_ok]; rfl
theorem run_bne {t : TypeId} {w : World} {b1 b2 : Bool} (hu : P.underlying t = some .bool) : (binOp .neq t (.bool b1) (.bool b2)).run P w = .ok (.bool (!(b1 == b2))) w := by
  have := run_equal_bool (P := P) (w := w) (b1 := b1) (b2 := b2) hu
  show (do pure (Value.bool (!(← Op.equal t (.bool b1) (.bool b2)))) : Sem Value).run P w = _
  simp only [Sem.run_bind, this, Result.andThen_ok]; rfl

theorem pur_un {op : UnOp} {t : TypeId} {x : Operand} (h : o.op = .unOp op t x) : PurSound P call own o := by
  intro ao B k m w sl bl BL a p ns next Q hd he hl hin hn
  simp only [digOp, h] at hd
  split at hd
  · rename_i ax hx
    cases hd
    have rx := opd (a := a) (m := m) (k := k) (sl := sl) hx (fun t ht => hl t (by simp [h, Op.operands, ht]))
    simp only [evPur] at he
    split at he
    · rename_i r hr
      cases he
      unfold unP at hr
      split at hr
      · rename_i k1 n1 hp
        rw [hp] at rx
        have e1 := int_inv rx
        split at hr <;> cases hr
        · exact wp_of_run (by simp only [execOp, h, e1, Op.unary]; rfl) (hn _ _ _ _ (PurOut.same hin.frz hin.own .int))
        · exact wp_of_run (by simp only [execOp, h, e1, Op.unary]; rfl) (hn _ _ _ _ (PurOut.same hin.frz hin.own .int))
      · rename_i b1 hp
        rw [hp] at rx
        have e1 := bool_inv rx
        split at hr <;> cases hr
        exact wp_of_run (by simp only [execOp, h, e1, Op.unary]; rfl) (hn _ _ _ _ (PurOut.same hin.frz hin.own .bool))
      · cases hr
    · cases he
  · cases hd

theorem pur_ext {x : Operand} {i : Nat} (h : o.op = .extract x i) : PurSound P call own o := by
  intro ao B k m w sl bl BL a p ns next Q hd he hl hin hn
  simp only [digOp, h] at hd
  split at hd
  · rename_i ax hx
    cases hd
    have rx := opd (a := a) (m := m) (k := k) (sl := sl) hx (fun t ht => hl t (by simp [h, Op.operands, ht]))
    simp only [evPur] at he
    split at he
    · rename_i cs hp
      split at he
      · rename_i q hq
        cases he
        rw [hp] at rx
        obtain ⟨vs, e1, e2, e3⟩ := tup_inv rx
        have hlt : i < vs.size := by rw [← e2]; exact (List.getElem?_eq_some_iff.1 hq).1
        have hr := e3 i _ hq
        rw [Array.getD_eq_getD_getElem?, Array.getElem?_eq_getElem hlt] at hr
        exact wp_of_run (v := vs[i]) (by simp [execOp, h, e1, Instr.extract, Array.getElem?_eq_getElem hlt]) (hn _ _ _ _ (PurOut.same hin.frz hin.own hr))
      · cases he
    · cases he
  · cases hd

theorem aggB_run {t : TypeId} {g : Bool} {w : World} (hg : aggB P t = some g) : (isAgg t).run P w = .ok g w := by
  unfold aggB at hg
  unfold isAgg
  cases hu : P.underlying t with
  | none => rw [hu] at hg; cases hg
  | some d =>
    rw [hu] at hg
    cases d <;> simp [run_underlying hu] <;> simpa using hg.symm

/-- a part of a value by its cells -/
theorem run_part {t : TypeId} {g : Bool} {i : TypeInfo} {vs : Array Value} {off : Nat} {ps : List PV} {p : PV} {m : Mem} {k : Nat} {w : World} (hg : aggB P t = some g) (hi : P.info? t = some i) (h1 : g = true ∨ i.size = 1)
    (hl : ps.length = vs.size) (hr : ∀ j p, ps[j]? = some p → Rep m k p (vs.getD j undef)) (hle : off + i.size ≤ ps.length) (hs : scal g ((ps.drop off).take i.size) = some p) :
    ∃ v, (part t vs off).run P w = .ok v w ∧ Rep m k p v := by
  have hag := aggB_run (P := P) (w := w) hg
  have hsz : (sizeOf t).run P w = .ok i.size w := by simp [sizeOf, typeInfo, hi]
  unfold scal at hs
  cases g with
  | true =>
    simp only [if_true] at hs
    cases hs
    refine ⟨.agg (vs.extract off (off + i.size)), by simp [part, hag, hsz], .agg (by simp; omega) (fun j p hp => ?_)⟩
    rw [List.getElem?_take] at hp
    split at hp
    · rename_i hj
      rw [List.getElem?_drop] at hp
      have := hr _ _ hp
      rw [Array.getD_eq_getD_getElem?] at this ⊢
      rw [Array.getElem?_extract]
      rw [if_pos (by omega)]
      exact this
    · cases hp
  | false =>
    have h2 : i.size = 1 := by simpa using h1
    rw [h2] at hs hle
    have hlt : off < vs.size := by omega
    have hd : (ps.drop off).take 1 = [ps[off]'(by omega)] := by
      rw [List.drop_eq_getElem_cons (by omega)]; rfl
    rw [hd] at hs
    simp at hs
    subst hs
    have := hr off _ (List.getElem?_eq_getElem (by omega))
    rw [Array.getD_eq_getD_getElem?, Array.getElem?_eq_getElem hlt] at this
    exact ⟨vs[off], by simp [part, hag, Array.getElem?_eq_getElem hlt], this⟩

theorem eqL_len : ∀ {ks : List KK} {ps qs : List PV} {b : Bool}, eqL ks ps qs = some b → ps.length = ks.length ∧ qs.length = ks.length
  | [], [], [], b, h => ⟨rfl, rfl⟩
  | c :: ks, a :: as, d :: ds, b, h => by
    simp only [eqL] at h
    split at h
    · rename_i x y hx hy
      obtain ⟨h1, h2⟩ := eqL_len hy
      simp [h1, h2]
    · cases h
  | [], _ :: _, _, b, h => by simp [eqL] at h
  | [], [], _ :: _, b, h => by simp [eqL] at h
  | _ :: _, [], _, b, h => by simp [eqL] at h
  | _ :: _, _ :: _, [], b, h => by simp [eqL] at h

theorem eqL_app : ∀ {l rs : List KK} {ps qs : List PV} {b : Bool}, eqL (l ++ rs) ps qs = some b →
    ∃ b1 b2, eqL l (ps.take l.length) (qs.take l.length) = some b1 ∧ eqL rs (ps.drop l.length) (qs.drop l.length) = some b2 ∧ b = (b1 && b2)
  | [], rs, ps, qs, b, h => ⟨true, b, by simp [eqL], by simpa using h, by simp⟩
  | c :: l, rs, a :: as, d :: ds, b, h => by
    simp only [List.cons_append, eqL] at h
    split at h
    · rename_i x y hx hy
      obtain ⟨b1, b2, h1, h2, h3⟩ := eqL_app hy
      refine ⟨x && b1, b2, by simp [eqL, hx, h1], by simpa using h2, ?_⟩
      cases h
      rw [h3, Bool.and_assoc]
    · cases h
  | _ :: _, _, [], _, b, h => by simp [eqL] at h
  | _ :: _, _, _ :: _, [], b, h => by simp [eqL] at h

theorem flatT_agg {d : Nat} {t : TypeId} {ks : List KK} (h : flatT P d t = some ks) : ∃ g, aggB P t = some g ∧ (g = false → ∃ c, ks = [c] ∧ ((c = .b ∧ P.underlying t = some .bool) ∨ (c = .i ∧ ∃ k, P.underlying t = some (.int k)) ∨ (c = .s ∧ P.underlying t = some .string))) := by
  cases d with
  | zero => simp [flatT] at h
  | succ d =>
    simp only [flatT] at h
    unfold aggB
    split at h <;> rename_i hu <;> first | (rw [hu]; exact ⟨_, rfl, fun hg => by first | (cases hg; done) | (cases h; exact ⟨_, rfl, by simp [hu]⟩)⟩) | (cases h; done)

/-- leaves -/
theorem eq_run_leaf {m : Mem} {k : Nat} {w : World} {t : TypeId} {c : KK} (hc : (c = .b ∧ P.underlying t = some .bool) ∨ (c = .i ∧ ∃ k, P.underlying t = some (.int k)) ∨ (c = .s ∧ P.underlying t = some .string)) {D : Nat} {p q : PV} {u v : Value} {b : Bool}
    (hp : Rep m k p u) (hq : Rep m k q v) (h : eq1 c p q = some b) : (Op.equalIn (D + 1) t u v).run P w = .ok b w := by
  rcases hc with ⟨rfl, hu⟩ | ⟨rfl, k1, hu⟩ | ⟨rfl, hu⟩
  · cases p <;> cases q <;> simp [eq1] at h
    rw [bool_inv hp, bool_inv hq, run_equalIn_bool' w D t _ _ hu, ← h]
  · cases p <;> cases q <;> simp [eq1] at h
    obtain ⟨rfl, h⟩ := h
    rw [int_inv hp, int_inv hq, run_equalIn_int w D t _ _ _ _ hu, ← h]
  · cases p <;> cases q <;> simp [eq1] at h
    obtain ⟨s1, rfl, e1⟩ := str_inv hp
    obtain ⟨s2, rfl, e2⟩ := str_inv hq
    rw [run_equalIn_string w D t _ _ hu, bytes_toList, bytes_toList, e1, e2, ← h]

theorem stood_fields {t : TypeId} {fs : Array Field} (hu : P.underlying t = some (.struct fs)) : P.fieldsOf t = fs := by simp [Program.fieldsOf, hu]

/-- VALUES COMPARED CELL BY CELL -/
theorem eq_run : ∀ (d : Nat) (t : TypeId) (ks : List KK), flatT P d t = some ks → ∀ (D : Nat), d ≤ D → ∀ {m : Mem} {k : Nat} {w : World} {g : Bool} {ps qs : List PV} {p q : PV} {u v : Value} {b : Bool}, aggB P t = some g → scal g ps = some p → scal g qs = some q →
    Rep m k p u → Rep m k q v → eqL ks ps qs = some b → (Op.equalIn D t u v).run P w = .ok b w
  | 0, t, ks, h, D, hD, m, k, w, g, ps, qs, p, q, u, v, b, hg, h1, h2, h3, h4, h5 => by simp [flatT] at h
  | d + 1, t, ks, h, D, hD, m, k, w, g, ps, qs, p, q, u, v, b, hg, h1, h2, h3, h4, h5 => by
    obtain ⟨D, rfl⟩ : ∃ D', D = D' + 1 := ⟨D - 1, by omega⟩
    have ih := eq_run d
    obtain ⟨g', hg', hleaf⟩ := flatT_agg h
    rw [hg] at hg'
    cases hg'
    cases g with
    | false =>
      obtain ⟨c, rfl, hc⟩ := hleaf rfl
      obtain ⟨l1, l2⟩ := eqL_len h5
      match ps, qs, l1, l2 with
      | [p0], [q0], _, _ =>
        simp [scal] at h1 h2
        subst h1 h2
        simp only [eqL] at h5
        split at h5
        · rename_i x y hx hy
          cases h5
          cases hy
          rw [eq_run_leaf hc h3 h4 hx]
          simp
        · cases h5
    | true =>
      simp [scal] at h1 h2
      subst h1 h2
      obtain ⟨xs, rfl, x1, x2⟩ := agg_inv h3
      obtain ⟨ys, rfl, y1, y2⟩ := agg_inv h4
      clear hleaf h3 h4
      -- one part
      have part1 : ∀ (e : TypeId) (l : List KK) (i : TypeInfo) (off : Nat) (b1 : Bool), flatT P d e = some l → P.info? e = some i → i.size = l.length → eqL l ((ps.drop off).take l.length) ((qs.drop off).take l.length) = some b1 → off + l.length ≤ ps.length → off + l.length ≤ qs.length →
          ∃ a c, (part e xs off).run P w = .ok a w ∧ (part e ys off).run P w = .ok c w ∧ (Op.equalIn D e a c).run P w = .ok b1 w := by
        intro e l i off b1 hl hi hs hb ho1 ho2
        obtain ⟨ge, hge, hgl⟩ := flatT_agg hl
        have h1' : ge = true ∨ i.size = 1 := by
          cases ge
          · obtain ⟨c, rfl, _⟩ := hgl rfl
            exact .inr hs
          · exact .inl rfl
        have sc : ∀ (zs : List PV), off + l.length ≤ zs.length → ∃ z, scal ge ((zs.drop off).take i.size) = some z := by
          intro zs hz
          cases ge
          · obtain ⟨c, rfl, _⟩ := hgl rfl
            simp only [List.length_cons, List.length_nil] at hs hz
            rw [hs, List.drop_eq_getElem_cons (by omega)]
            exact ⟨_, rfl⟩
          · exact ⟨_, rfl⟩
        obtain ⟨z1, s1⟩ := sc ps ho1
        obtain ⟨z2, s2⟩ := sc qs ho2
        obtain ⟨a, r1, r2⟩ := run_part (P := P) (w := w) hge hi h1' x1 x2 (by omega) s1
        obtain ⟨c, r3, r4⟩ := run_part (P := P) (w := w) hge hi h1' y1 y2 (by omega) s2
        rw [hs] at s1 s2
        exact ⟨a, c, r1, r3, ih e l hl D (by omega) hge s1 s2 r2 r4 hb⟩
      simp only [flatT] at h
      split at h
      · rename_i hu; simp [aggB, hu] at hg
      · rename_i hu; simp [aggB, hu] at hg
      · rename_i hu; simp [aggB, hu] at hg
      · -- an array
        rename_i n e hu
        split at h
        · rename_i l i hl hi
          split at h
          · rename_i hs
            cases h
            have hce : P.cellsOf e = l.length := by simp [Program.cellsOf, hi, hs]
            rw [run_equalIn_array w D xs ys hu hi, hce, List.range_eq_range']
            obtain ⟨L1, L2⟩ := eqL_len h5
            have key : ∀ (r s : Nat) (b : Bool), s + r = n → eqL (List.replicate r l).flatten (ps.drop (s * l.length)) (qs.drop (s * l.length)) = some b → (Op.eqItems D e l.length xs ys (List.range' s r)).run P w = .ok b w := by
              intro r
              induction r with
              | zero =>
                intro s b hsn hb
                simp at hb
                obtain ⟨e1, e2⟩ := eqL_len hb
                have : ps.drop (s * l.length) = [] := List.length_eq_zero_iff.1 (by simpa using e1)
                have h2 : qs.drop (s * l.length) = [] := List.length_eq_zero_iff.1 (by simpa using e2)
                rw [this, h2] at hb
                simp [eqL] at hb
                subst hb
                simp [Op.eqItems]
              | succ r ihr =>
                intro s b hsn hb
                rw [List.replicate_succ, List.flatten_cons] at hb
                obtain ⟨b1, b2, e1, e2, rfl⟩ := eqL_app hb
                obtain ⟨f1, f2⟩ := eqL_len hb
                simp only [List.length_drop, List.length_append] at f1 f2
                have hlen : 0 ≤ (List.replicate r l).flatten.length := Nat.zero_le _
                obtain ⟨a, c, r1, r2, r3⟩ := part1 e l i (s * l.length) b1 hl hi hs e1 (by
                  rcases Nat.eq_zero_or_pos l.length with h0 | h0
                  · rw [h0]; simp
                  · omega) (by
                  rcases Nat.eq_zero_or_pos l.length with h0 | h0
                  · rw [h0]; simp
                  · omega)
                rw [List.range'_succ]
                simp only [Op.eqItems, Sem.run_bind, r1, r2, r3, Result.andThen_ok]
                cases b1
                · simp
                · simp only [Bool.not_true, Bool.false_eq_true, if_false, Bool.true_and]
                  refine ihr (s + 1) b2 (by omega) ?_
                  rw [List.drop_drop, List.drop_drop] at e2
                  rw [show (s + 1) * l.length = s * l.length + l.length by rw [Nat.succ_mul]]
                  exact e2
            exact key n 0 b (by omega) (by simpa using h5)
          · cases h
        · cases h
      · -- a struct
        rename_i fs hu
        split at h
        · cases h
        · rename_i hst
          have hst : P.stoodInHeld t = false := by simpa using hst
          have hf := stood_fields hu
          rw [run_equalIn_struct w D t xs ys (by rw [hf]; exact hu) hst, hf]
          have key : ∀ (fl : List Field) (off : Nat) (ks : List KK) (b : Bool), flatF P (flatT P d) fl off = some ks → eqL ks (ps.drop off) (qs.drop off) = some b → (Op.eqFields D xs ys fl).run P w = .ok b w := by
            intro fl
            induction fl with
            | nil =>
              intro off ks b hk hb
              simp [flatF] at hk
              subst hk
              obtain ⟨e1, e2⟩ := eqL_len hb
              have h1 : ps.drop off = [] := List.length_eq_zero_iff.1 (by simpa using e1)
              have h2 : qs.drop off = [] := List.length_eq_zero_iff.1 (by simpa using e2)
              rw [h1, h2] at hb
              simp [eqL] at hb
              subst hb
              simp [Op.eqFields]
            | cons f fl ihf =>
              intro off ks b hk hb
              simp only [flatF] at hk
              split at hk
              · rename_i hn
                split at hk
                · rename_i l i hl hi
                  split at hk
                  · rename_i hs
                    split at hk
                    · rename_i rs hrs
                      cases hk
                      obtain ⟨b1, b2, e1, e2, rfl⟩ := eqL_app hb
                      obtain ⟨f1, f2⟩ := eqL_len hb
                      simp only [List.length_drop, List.length_append] at f1 f2
                      have c1 := (eqL_len e1)
                      simp only [List.length_take, List.length_drop] at c1
                      obtain ⟨hn1, hn2⟩ := hn
                      subst hn2
                      obtain ⟨a, c, r1, r2, r3⟩ := part1 f.type l i f.offset b1 hl hi hs.1 e1 (by omega) (by omega)
                      simp only [Op.eqFields, ne_eq, hn1, not_false_eq_true, if_true, Sem.run_bind, r1, r2, r3, Result.andThen_ok]
                      cases b1
                      · simp
                      · simp only [Bool.not_true, Bool.false_eq_true, if_false, Bool.true_and]
                        exact ihf (f.offset + l.length) rs b2 hrs (by rw [List.drop_drop, List.drop_drop] at e2; exact e2)
                    · cases hk
                  · cases hk
                · cases hk
              · cases hk
          exact key fs.toList 0 ks b h (by simpa using h5)
      · cases h

theorem eq_run_agg {m : Mem} {k : Nat} {w : World} (d : Nat) (t : TypeId) (ks : List KK) (h : flatT P d t = some ks) (hg : aggB P t = some true) (D : Nat) (hD : d ≤ D) {xs ys : Array Value} {ps qs : List PV} {b : Bool}
    (x1 : ps.length = xs.size) (x2 : ∀ i p, ps[i]? = some p → Rep m k p (xs.getD i undef)) (y1 : qs.length = ys.size) (y2 : ∀ i p, qs[i]? = some p → Rep m k p (ys.getD i undef)) (hb : eqL ks ps qs = some b) :
    (Op.equalIn D t (.agg xs) (.agg ys)).run P w = .ok b w := eq_run d t ks h D hD hg (p := .agg ps) (q := .agg qs) rfl rfl (.agg x1 x2) (.agg y1 y2) hb

theorem slc_some {m : Mem} {k : Nat} {ex : Bool} {e : Nat} {r : List PV} {rs : List (List PV)} {v : Value} (h : Rep m k (.sl ex e (r :: rs)) v) : ∃ ad len cap, v = .slice (some ad) len cap := by
  cases h with
  | sl => exact ⟨_, _, _, rfl⟩
theorem nn_inv {m : Mem} {k : Nat} {v : Value} (h : Rep m k .nn v) : ∃ t x, v = .iface t x := by cases h; exact ⟨_, _, rfl⟩
theorem v_inv {m : Mem} {k : Nat} {x v : Value} (h : Rep m k (.v x) v) : v = x := by cases h; rfl
theorem run_eql_of {t : TypeId} {w : World} {u v : Value} {b : Bool} (hb : binOp .eql t u v = (do pure (Value.bool (← Op.equal t u v)))) (h : (Op.equal t u v).run P w = .ok b w) : (binOp .eql t u v).run P w = .ok (.bool b) w := by
  rw [hb]
  simp only [Sem.run_bind, h, Result.andThen_ok]; rfl
theorem run_neq_of {t : TypeId} {w : World} {u v : Value} {b : Bool} (hb : binOp .neq t u v = (do pure (Value.bool (!(← Op.equal t u v))))) (h : (Op.equal t u v).run P w = .ok b w) : (binOp .neq t u v).run P w = .ok (.bool (!b)) w := by
  rw [hb]
  simp only [Sem.run_bind, h, Result.andThen_ok]; rfl
theorem run_equal_slice {t e : TypeId} {w : World} {ad : Addr} {n c : Nat} (hu : P.underlying t = some (.slice e)) : (Op.equal t (.slice (some ad) n c) (.slice none 0 0)).run P w = .ok false w := by
  unfold Op.equal
  rw [show Op.maxDepth = 9999 + 1 from rfl]
  generalize 9999 = d
  rw [Op.equalIn]
  simp only [Sem.run_bind, run_underlying hu, Result.andThen_ok]
  rfl
theorem run_equal_nil {t : TypeId} {w : World} {ms : Array (String × TypeId)} (hu : P.underlying t = some (.interface ms)) : (Op.equal t .nilIface .nilIface).run P w = .ok true w := by
  unfold Op.equal
  rw [show Op.maxDepth = 9999 + 1 from rfl]
  generalize 9999 = d
  rw [Op.equalIn]
  simp only [Sem.run_bind, run_underlying hu, Result.andThen_ok]
  rfl
theorem run_equal_some {t : TypeId} {w : World} {ms : Array (String × TypeId)} {ti : TypeId} {xx : Value} (hu : P.underlying t = some (.interface ms)) : (Op.equal t (.iface ti xx) .nilIface).run P w = .ok false w := by
  unfold Op.equal
  rw [show Op.maxDepth = 9999 + 1 from rfl]
  generalize 9999 = d
  rw [Op.equalIn]
  simp only [Sem.run_bind, run_underlying hu, Result.andThen_ok]
  rfl
theorem pur_bin {op : BinOp} {t : TypeId} {x y : Operand} {t2 : TypeId} (h : o.op = .binOp op t x y t2) : PurSound P call own o := by
  intro ao B k m w sl bl BL a p ns next Q hd he hl hin hn
  simp only [digOp, h] at hd
  split at hd
  · rename_i s hnt
    have main : ∀ neg ax, op = (if neg then .neq else .eql) → digV x = some ax → ao = .nilq s neg ax → o.wp P a w next Q := by
      intro neg ax hop hx hao
      subst hao
      have rx := opd (a := a) (m := m) (k := k) (sl := sl) hx (fun t ht => hl t (by simp [h, Op.operands, ht]))
      have key : ∀ b, (binOp .eql t (a.eval x) (a.eval y) = (do pure (Value.bool (← Op.equal t (a.eval x) (a.eval y))))) → (binOp .neq t (a.eval x) (a.eval y) = (do pure (Value.bool (!(← Op.equal t (a.eval x) (a.eval y)))))) → (Op.equal t (a.eval x) (a.eval y)).run P w = .ok b w → (∀ op', (eqGuard op' t x y (a.eval x) (a.eval y)).run P w = .ok () w) → p = .bool (if neg then !b else b) → ns = [] → o.wp P a w next Q := by
        intro b hb1 hb2 hb hg hp hns
        subst hp hns
        refine wp_of_run (v := .bool (if neg then !b else b)) ?_ (hn _ _ _ _ (PurOut.same hin.frz hin.own .bool))
        cases neg
        · simp only [Bool.false_eq_true, if_false] at hop ⊢
          subst hop
          simp [execOp, h, hg, run_eql_of hb1 hb]
        · simp only [if_true] at hop ⊢
          subst hop
          simp [execOp, h, hg, run_neq_of hb2 hb]
      simp only [evPur] at he
      split at he
      · rename_i ex e0 r rs hv
        cases he
        obtain ⟨rfl, e, hu⟩ := nilT_slice hnt
        rw [hv] at rx
        obtain ⟨ad, len, cap, hvl⟩ := slc_some rx
        refine key false (by rw [hvl]; rfl) (by rw [hvl]; rfl) ?_ (fun op' => ?_) (by cases neg <;> rfl) rfl
        · rw [hvl]; exact run_equal_slice hu
        · rw [hvl]; cases op' <;> rfl
      · rename_i hv
        cases he
        obtain ⟨rfl, ms, hu⟩ := nilT_iface hnt
        rw [hv] at rx
        have e1 := v_inv rx
        refine key true (by rw [e1]; rfl) (by rw [e1]; rfl) ?_ (fun op' => ?_) (by cases neg <;> rfl) rfl
        · rw [e1]; exact run_equal_nil hu
        · rw [e1]; cases x <;> cases op' <;> rfl
      · rename_i ti xx hv
        cases he
        obtain ⟨rfl, ms, hu⟩ := nilT_iface hnt
        rw [hv] at rx
        have e1 := v_inv rx
        refine key false (by rw [e1]; rfl) (by rw [e1]; rfl) ?_ (fun op' => ?_) (by cases neg <;> rfl) rfl
        · rw [e1]; exact run_equal_some hu
        · rw [e1]; cases op' <;> rfl
      · rename_i hv
        cases he
        obtain ⟨rfl, ms, hu⟩ := nilT_iface hnt
        rw [hv] at rx
        obtain ⟨ti, xx, e1⟩ := nn_inv rx
        refine key false (by rw [e1]; rfl) (by rw [e1]; rfl) ?_ (fun op' => ?_) (by cases neg <;> rfl) rfl
        · rw [e1]; exact run_equal_some hu
        · rw [e1]; cases op' <;> rfl
      · cases he
    split at hd
    · cases hd; exact main false _ rfl (by assumption) rfl
    · cases hd; exact main true _ rfl (by assumption) rfl
    · cases hd
  split at hd
  · rename_i ax ay hx hy hu
    have rx := opd (a := a) (m := m) (k := k) (sl := sl) hx (fun t ht => hl t (by simp [h, Op.operands, ht]))
    have ry := opd (a := a) (m := m) (k := k) (sl := sl) hy (fun t ht => hl t (by simp [h, Op.operands, ht]))
    have main : ∀ neg, op = (if neg then .neq else .eql) → ao = .beq neg ax ay → o.wp P a w next Q := by
      intro neg hop hao
      subst hao
      simp only [evPur] at he
      split at he
      · rename_i b1 b2 h1 h2
        cases he
        rw [h1] at rx
        rw [h2] at ry
        have e1 := bool_inv rx
        have e2 := bool_inv ry
        refine wp_of_run (v := .bool (if neg then !(b1 == b2) else b1 == b2)) ?_ (hn _ _ _ _ (PurOut.same hin.frz hin.own .bool))
        have g1 : ∀ op', (eqGuard op' t x y (.bool b1) (.bool b2)).run P w = .ok () w := fun op' => by cases op' <;> rfl
        cases neg
        · simp only [Bool.false_eq_true, if_false] at hop ⊢
          subst hop
          simp [execOp, h, e1, e2, g1, run_beq hu]
        · simp only [if_true] at hop ⊢
          subst hop
          simp [execOp, h, e1, e2, g1, run_bne hu]
      · cases he
    split at hd
    · cases hd; exact main false rfl rfl
    · cases hd; exact main true rfl rfl
    · cases hd
  · rename_i ax ay d hnb hx hy hu
    have rx := opd (a := a) (m := m) (k := k) (sl := sl) hx (fun t ht => hl t (by simp [h, Op.operands, ht]))
    have ry := opd (a := a) (m := m) (k := k) (sl := sl) hy (fun t ht => hl t (by simp [h, Op.operands, ht]))
    split at hd
    · rename_i hag
      split at hd
      · rename_i ks hks
        split at hd
        · cases hd
        · rename_i hgd
          have hgd : P.eqGuardType P.depth t = false := by simpa using hgd
          have main : ∀ neg, op = (if neg then .neq else .eql) → ao = .beqA neg ks ax ay → o.wp P a w next Q := by
            intro neg hop hao
            subst hao
            simp only [evPur] at he
            split at he
            · rename_i ps qs h1 h2
              split at he
              · rename_i b hb
                cases he
                rw [h1] at rx
                rw [h2] at ry
                obtain ⟨xs, e1, x1, x2⟩ := agg_inv rx
                obtain ⟨ys, e2, y1, y2⟩ := agg_inv ry
                have hrun := eq_run_agg (w := w) 8 t ks hks hag 10000 (by omega) x1 x2 y1 y2 hb
                refine wp_of_run (v := .bool (if neg then !b else b)) ?_ (hn _ _ _ _ (PurOut.same hin.frz hin.own .bool))
                have g1 : ∀ op', (eqGuard op' t x y (.agg xs) (.agg ys)).run P w = .ok () w := fun op' => run_eqGuard_agg (P := P) w op' t x y xs ys hgd
                cases neg
                · simp only [Bool.false_eq_true, if_false] at hop ⊢
                  subst hop
                  simp [execOp, h, e1, e2, g1, run_eql_struct, hrun]
                · simp only [if_true] at hop ⊢
                  subst hop
                  simp [execOp, h, e1, e2, g1, run_neq_struct, hrun]
              · cases he
            · cases he
          split at hd
          · cases hd; exact main false rfl rfl
          · cases hd; exact main true rfl rfl
          · cases hd
      · cases hd
    · cases hd
      simp only [evPur] at he
      split at he
      · rename_i r hr
        cases he
        obtain ⟨z, h1, h2, h3⟩ := binP_run (t := t) (P := P) (w := w) hr rx ry
        exact wp_of_run (v := z) (by simp [execOp, h, h1 x y, h2]) (hn _ _ _ _ (PurOut.same hin.frz hin.own h3))
      · cases he
  · cases hd

theorem pur_fld {t : TypeId} {x : Operand} {f : Nat} (h : o.op = .field t x f) : PurSound P call own o := by
  intro ao B k m w sl bl BL a p ns next Q hd he hl hin hn
  simp only [digOp, h] at hd
  split at hd
  · rename_i fs ax hu hx
    have rx := opd (a := a) (m := m) (k := k) (sl := sl) hx (fun t ht => hl t (by simp [h, Op.operands, ht]))
    split at hd
    · rename_i fd hf
      split at hd
      · rename_i g i hg hi
        split at hd
        · rename_i h1
          cases hd
          simp only [evPur] at he
          split at he
          · rename_i cs hp
            split at he
            · rename_i hle
              split at he
              · rename_i q hq
                cases he
                rw [hp] at rx
                obtain ⟨vs, e1, e2, e3⟩ := agg_inv rx
                obtain ⟨v, hv, hr⟩ := run_part (P := P) (w := w) hg hi h1 e2 e3 hle hq
                exact wp_of_run (v := v) (by simp [execOp, h, e1, Instr.field, run_underlying hu, hf, asAgg, hv]) (hn _ _ _ _ (PurOut.same hin.frz hin.own hr))
              · cases he
            · cases he
          · cases he
        · cases hd
      · cases hd
    · cases hd
  · cases hd

theorem pur_idx {t : TypeId} {x y : Operand} (h : o.op = .index t x y) : PurSound P call own o := by
  intro ao B k m w sl bl BL a p ns next Q hd he hl hin hn
  simp only [digOp, h] at hd
  split at hd
  · rename_i ax ay hu hx hy
    cases hd
    have rx := opd (a := a) (m := m) (k := k) (sl := sl) hx (fun t ht => hl t (by simp [h, Op.operands, ht]))
    have ry := opd (a := a) (m := m) (k := k) (sl := sl) hy (fun t ht => hl t (by simp [h, Op.operands, ht]))
    simp only [evPur] at he
    split at he
    · rename_i s j i hs hj
      split at he
      · rename_i h0
        split at he
        · rename_i b hb
          cases he
          rw [hs] at rx
          rw [hj] at ry
          obtain ⟨s', e1, e2⟩ := str_inv rx
          have e3 := int_inv ry
          have hb' : s'[i.toNat]? = some b := by
            rw [← e2] at hb
            simp only [Array.getElem?_toList] at hb
            have hlt := (Array.getElem?_eq_some_iff.1 hb)
            obtain ⟨h1, h2⟩ := hlt
            simp only [getElem?_def]
            rw [dif_pos (show i.toNat < s'.size from h1)]
            congr 1
          refine wp_of_run (v := .int .u8 (b.toNat : Int)) ?_ (hn _ _ _ _ (PurOut.same hin.frz hin.own .int))
          simp [execOp, h, e1, e3, Instr.index, asIntOf, run_underlying hu, h0, hb']
        · cases he
      · cases he
    · cases he
  · rename_i n e ax ay hu hx hy
    split at hd
    · rename_i g ti hg hi
      split at hd
      · rename_i h1
        cases hd
        have rx := opd (a := a) (m := m) (k := k) (sl := sl) hx (fun t ht => hl t (by simp [h, Op.operands, ht]))
        have ry := opd (a := a) (m := m) (k := k) (sl := sl) hy (fun t ht => hl t (by simp [h, Op.operands, ht]))
        simp only [evPur] at he
        split at he
        · rename_i cs j i hs hj
          split at he
          · rename_i hc
            split at he
            · rename_i q hq
              cases he
              rw [hs] at rx
              rw [hj] at ry
              obtain ⟨vs, e1, e2, e3⟩ := agg_inv rx
              have e4 := int_inv ry
              obtain ⟨v, hv, hr⟩ := run_part (P := P) (w := w) hg hi h1 e2 e3 hc.2.2 hq
              have hsz : (sizeOf e).run P w = .ok ti.size w := by simp [sizeOf, typeInfo, hi]
              refine wp_of_run (v := v) ?_ (hn _ _ _ _ (PurOut.same hin.frz hin.own hr))
              have hb : 0 ≤ i ∧ i < (n : Int) := ⟨hc.1, by have := hc.2.1; omega⟩
              simp [execOp, h, e1, e4, Instr.index, asIntOf, run_underlying hu, hb, hsz, hv]
            · cases he
          · cases he
        · cases he
      · cases hd
    · cases hd
  · cases hd

theorem pur_mkfn {fn : Fn} {first caps : Array Operand} (h : o.op = .makeFunc fn first caps) : PurSound P call own o := by
  intro ao B k m w sl bl BL a p ns next Q hd he hl hin hn
  simp only [digOp, h] at hd
  split at hd
  · rename_i g cs hf hc
    cases hd
    simp [evPur] at he
    obtain ⟨rfl, rfl⟩ := he
    have hfirst : first = #[] := by simpa using hf
    subst hfirst
    have key : ∀ (l : List Operand) (cs : List AO), (∀ x ∈ l, x ∈ caps.toList) → digL l = some cs → cs.length = l.length ∧ ∀ (i : Nat) (p : PV), (cs.map (·.ev sl))[i]? = some p → Rep m k p ((l.map a.eval).getD i undef) := by
      intro l
      induction l with
      | nil => intro cs _ hc; simp [digL] at hc; subst hc; exact ⟨rfl, fun i p hp => by simp at hp⟩
      | cons x r ih =>
        intro cs hm hc
        simp only [digL] at hc
        split at hc
        · rename_i ax axs h1 h2
          cases hc
          obtain ⟨e1, e2⟩ := ih axs (fun y hy => hm y (by simp [hy])) h2
          refine ⟨by simp [e1], fun i p hp => ?_⟩
          cases i with
          | zero =>
            simp at hp
            subst hp
            simp
            exact opd h1 (fun t ht => hl t (by
              have := hm x (by simp)
              simp only [h, Op.operands]
              subst ht
              simp at this
              simpa using this))
          | succ i => simpa using e2 i p (by simpa using hp)
        · cases hc
    obtain ⟨e1, e2⟩ := key caps.toList cs (fun _ h => h) hc
    refine wp_of_run (v := .func (.func g) #[] (caps.map a.eval)) (by simp [execOp, h, Instr.makeFunc]) (hn _ _ _ _ (PurOut.same hin.frz hin.own (.fn (by simp [e1]) (fun i p hp => ?_))))
    have := e2 i p hp
    have e3 : (caps.map a.eval).getD i undef = (caps.toList.map a.eval).getD i undef := by
      rw [Array.getD_eq_getD_getElem?, List.getD_eq_getElem?_getD]; simp
    rw [e3]; exact this
  · cases hd

end

end Go.Proofs.Ytlnaibkpmklkiaa
