/- What a function hands out; functions. -/
import Derived.Test.YtlnaibkpmklkiaaEvX
namespace Go.Proofs.Ytlnaibkpmklkiaa
open Go Go.RowKit
set_option linter.unusedSectionVars false
variable [Bs]
set_option linter.unusedVariables false
set_option linter.unusedSimpArgs false

theorem kill_spec : ∀ (ids : List Nat) (bl : Blks) (id : Nat) (x : Blk), (kill ids bl)[id]? = some (some x) → bl[id]? = some (some x) ∧ id ∉ ids
  | [], bl, id, x, h => ⟨by simpa [kill] using h, by simp⟩
  | b :: ids, bl, id, x, h => by
    have h' : (kill ids (bl.set b none))[id]? = some (some x) := h
    obtain ⟨h1, h2⟩ := kill_spec ids _ id x h'
    by_cases e : b = id
    · subst e
      rw [List.getElem?_set] at h1
      simp at h1
    · rw [List.getElem?_set_ne e] at h1
      exact ⟨h1, by simp [h2]; exact fun h => e h.symm⟩

theorem cls_imp {n : Nat} {bl : Blks} {p q : PV} (h : cls n bl p = some q) (h1 : ∀ cs, p ≠ .agg cs) (h2 : ∀ cs, p ≠ .tup cs) : impB q = [] ∧ ∀ K, impV K q = q := by
  cases n with
  | zero => simp [cls] at h
  | succ n =>
    simp only [cls] at h
    split at h
    · rename_i hlt
      cases h
      cases p <;> first | exact ⟨rfl, fun _ => rfl⟩ | exact absurd rfl (h1 _) | exact absurd rfl (h2 _) | (simp [PV.lt] at hlt; done)
    · repeat' split at h
      all_goals first | (cases h; done) | (cases h; exact ⟨rfl, fun _ => rfl⟩) | exact absurd rfl (h1 _) | exact absurd rfl (h2 _)

/-- what is known of the blocks that a value hands out -/
structure Hand (bl : Blks) (m : Mem) (w : World) (c' : Nat → Nat → Option Value) (ids : List Nat) (r : PV) (infos : List Info) (v : Value) : Prop where
  len : infos.length = (impB r).length
  len2 : infos.length = ids.length
  info : ∀ (j : Nat) (b : Nat) (i : Info), ids[j]? = some b → infos[j]? = some i → ∃ i0 x0, bl[b]? = some (some x0) ∧ m.blk b = some i0 ∧ i.g = i0.g ∧ i.virt = i0.virt
  at_ : ∀ (j : Nat) (x : Blk) (i : Info), (impB r)[j]? = some x → infos[j]? = some i → BlkAt ⟨c', noBlk⟩ 0 w i x
  rep : ∀ K mb, (∀ (j : Nat) (i : Info), infos[j]? = some i → mb (K + j) = some i) → Rep ⟨c', mb⟩ (K + infos.length) (impV K r) v

structure HandL (bl : Blks) (m : Mem) (w : World) (c' : Nat → Nat → Option Value) (ids : List Nat) (rs : List PV) (infos : List Info) (f : Nat → Value) : Prop where
  len : infos.length = (impB.impBL rs).length
  len2 : infos.length = ids.length
  info : ∀ (j : Nat) (b : Nat) (i : Info), ids[j]? = some b → infos[j]? = some i → ∃ i0 x0, bl[b]? = some (some x0) ∧ m.blk b = some i0 ∧ i.g = i0.g ∧ i.virt = i0.virt
  at_ : ∀ (j : Nat) (x : Blk) (i : Info), (impB.impBL rs)[j]? = some x → infos[j]? = some i → BlkAt ⟨c', noBlk⟩ 0 w i x
  rep : ∀ K mb, (∀ (j : Nat) (i : Info), infos[j]? = some i → mb (K + j) = some i) → ∀ (i : Nat) (p : PV), (impV.impVL K rs)[i]? = some p → Rep ⟨c', mb⟩ (K + infos.length) p (f i)

theorem impVL_len {K : Nat} : ∀ {rs : List PV}, (impV.impVL K rs).length = rs.length := by
  intro rs
  induction rs generalizing K with
  | nil => rfl
  | cons r rs ih => simp [impV.impVL, ih]

set_option linter.unusedSectionVars false
section
variable {B k : Nat} {m : Mem} {w : World} {bl : Blks} {ids : List Nat} (hf : FrzOk m w) (ho : Owns B m k w bl)
include hf ho

theorem owns_kill : Owns B m k w (kill ids bl) :=
  ⟨fun id x i hx hi => ho.at_ id x i (kill_spec ids bl id x hx).1 hi, fun id x i hx hi => ho.base id x i (kill_spec ids bl id x hx).1 hi,
    fun id x i id' x' i' hx hi hx' hi' => ho.inj id x i id' x' i' (kill_spec ids bl id x hx).1 hi (kill_spec ids bl id' x' hx').1 hi'⟩

theorem hand_cls {p q : PV} {v : Value} {kk : Nat} (h : cls clsFuel (kill ids bl) p = some q) (h1 : ∀ cs, p ≠ .agg cs) (h2 : ∀ cs, p ≠ .tup cs) (hr : Rep m kk p v) : Hand bl m w (lend m w (kill ids bl)).cell [] q [] v := by
  obtain ⟨e1, e2⟩ := cls_imp h h1 h2
  refine ⟨by rw [e1]; rfl, rfl, fun j b i hj => by simp at hj, fun j x i hj => by rw [e1] at hj; simp at hj, fun K mb _ => ?_⟩
  rw [e2]
  have := cls_rep hf (owns_kill hf ho) (fun _ _ h => h) clsFuel p q v kk h hr
  exact (Rep.re (m' := ⟨(lend m w (kill ids bl)).cell, mb⟩) this (fun _ _ _ h => h)).up (Nat.zero_le _)

theorem hand_own {b ver lo len : Nat} {x : Blk} {rs : List (List PV)} {v : Value} {kk : Nat} (hg : getB bl b ver = some x) (hrs : (if x.flat then some x.rows else mapO (mapO (cls clsFuel (kill ids bl))) x.rows) = some rs) (hlo : lo = 0) (hlen : len ≤ x.rows.length)
    (hr : Rep m kk (.own b ver lo len) v) : ∃ i, Hand bl m w (lend m w (kill ids bl)).cell [b] (.fr x.e (rs.take len)) [i] v := by
  obtain ⟨hbl, hver⟩ := getB_spec hg
  obtain ⟨i, g1, g2, g3, g4, g5⟩ := own_inv hr
  have hat := (ho.at_ b x i hbl g2).blk (getB_ne hg)
  have hrl : rs.length = x.rows.length := by
    split at hrs
    · cases hrs; rfl
    · exact (mapO_spec hrs).1
  have old : ∀ bb o u, m.cell bb o = some u → (lend m w (kill ids bl)).cell bb o = some u := fun bb o u h => addCells_old h
  have hrt : (rs.take len).length = len := by rw [List.length_take]; omega
  have hat2 : BlkAt ⟨(lend m w (kill ids bl)).cell, noBlk⟩ 0 w ⟨i.g, (rs.take len).length, i.e, (rs.take len).length, i.cap, i.virt⟩ ⟨(rs.take len).length, x.e, true, rs.take len⟩ := by
    refine ⟨rfl, hat.e, rfl, fun r hr => ?_, ?_, hat.ne⟩
    · have hr := List.mem_of_mem_take hr
      split at hrs
      · cases hrs; exact hat.rowl r hr
      · obtain ⟨t, ht⟩ := List.getElem?_of_mem hr
        obtain ⟨a, ha, hfa⟩ := (mapO_spec hrs).2 t r ht
        rw [(mapO_spec hfa).1]
        exact hat.rowl a (List.mem_of_getElem? ha)
    · rcases hat.mem with ⟨h1, h2⟩ | ⟨hv, cur, ty, m1, m2, m3, m4, m5⟩
      · left
        have : rs = [] := List.eq_nil_of_length_eq_zero (by rw [hrl, h2]; rfl)
        refine ⟨h1, by rw [this]; simp⟩
      · have hn := hat.n
        refine .inr ⟨hv, cur, ty, m1, m2, by show (rs.take len).length ≤ i.cap; omega, m4, fun r row j q hr hj => ?_⟩
        have hr : rs[r]? = some row := by
          have hlt := (List.getElem?_eq_some_iff.1 hr).1
          rw [hrt] at hlt
          rw [List.getElem?_take_of_lt hlt] at hr
          exact hr
        simp only [if_true]
        split at hrs
        · rename_i hfl
          cases hrs
          rw [hfl] at m5
          obtain ⟨u, h1, h2, h3⟩ := m5 r row j q hr hj
          simp only [if_true] at h3
          exact ⟨u, h1, h2, h3.re old⟩
        · obtain ⟨row0, ha, hfa⟩ := (mapO_spec hrs).2 r row hr
          obtain ⟨q0, hq0, hfq⟩ := (mapO_spec hfa).2 j q hj
          obtain ⟨u, h1, h2, h3⟩ := m5 r row0 j q0 ha hq0
          exact ⟨u, h1, h2, (cls_rep hf (owns_kill hf ho) (fun _ _ h => h) clsFuel q0 q u _ hfq h3).re (fun _ _ _ h => h)⟩
  refine ⟨⟨i.g, (rs.take len).length, i.e, (rs.take len).length, i.cap, i.virt⟩, rfl, rfl, fun j b' i' hj hi' => ?_, fun j y i' hj hi' => ?_, fun K mb hmb => ?_⟩
  · cases j with
    | zero => simp at hj hi'; subst hj hi'; exact ⟨i, x, hbl, g2, rfl, rfl⟩
    | succ j => simp at hj
  · cases j with
    | zero => simp only [impB, List.getElem?_cons_zero, Option.some.injEq] at hj hi'; subst hj hi'; exact hat2
    | succ j => simp [impB] at hj
  · simp only [impV]
    refine .own (by simp) (hmb 0 _ rfl) (Nat.le_refl _) g4 (fun _ => ?_)
    have hov := g5 (hat.ver.trans hver)
    subst hlo
    have hn := hat.n
    rw [hrt]
    rcases hov with ⟨o1, o2, o3⟩ | ⟨o1, cap, o2, o3, o4, o5⟩
    · exact .inl ⟨o1, by show len ≤ 0; omega, o3⟩
    · exact .inr ⟨o1, cap, o2, o3, by show len ≤ 0 + cap; have := hat.n; omega, o5⟩

mutual
theorem expo_rep {g : Bool} : ∀ (p r : PV) (v : Value) (kk : Nat), expo g bl (kill ids bl) ids p = some r → Rep m kk p v → (∀ b ∈ frIds g bl p, b ∈ ids) → ∃ infos, Hand bl m w (lend m w (kill ids bl)).cell (frIds g bl p) r infos v
  | .own b ver lo len, r, v, kk, h, hr, hi => by
    simp only [expo] at h
    split at h
    · rename_i hb
      split at h
      · rename_i x hg
        split at h
        · rename_i rs hrs
          split at h
          · rename_i hc
            cases h
            have : frIds g bl (.own b ver lo len) = [b] := by simp only [frIds, hg]; rw [if_pos hc]
            rw [this]
            obtain ⟨i, hH⟩ := hand_own hf ho hg hrs hc.1 (Nat.le_of_eq hc.2) hr
            have hrl : rs.length = x.rows.length := by
              split at hrs
              · cases hrs; rfl
              · exact (mapO_spec hrs).1
            rw [List.take_of_length_le (by omega)] at hH
            exact ⟨[i], hH⟩
          · rename_i hc0
            split at h
            · rename_i hc
              cases h
              have : frIds g bl (.own b ver lo len) = [b] := by simp only [frIds, hg]; rw [if_neg hc0, if_pos hc]
              rw [this]
              obtain ⟨i, hH⟩ := hand_own hf ho hg hrs hc.1 (by omega) hr
              rw [hc.2, List.take_zero] at hH
              exact ⟨[i], hH⟩
            · rename_i hc1
              split at h
              · rename_i hc
                cases h
                have : frIds g bl (.own b ver lo len) = [b] := by simp only [frIds, hg]; rw [if_neg hc0, if_neg hc1, if_pos hc]
                rw [this]
                obtain ⟨i, hH⟩ := hand_own hf ho hg hrs hc.2.1 hc.2.2 hr
                exact ⟨[i], hH⟩
              · cases h
        · cases h
      · cases h
    · rename_i hb
      have : frIds g bl (.own b ver lo len) = [] := by
        cases hfr : frIds g bl (.own b ver lo len) with
        | nil => rfl
        | cons c r =>
          exfalso
          have hcb : c = b := by
            have : c ∈ frIds g bl (.own b ver lo len) := by rw [hfr]; simp
            simp only [frIds] at this
            split at this
            · split at this
              · simpa using this
              · split at this
                · simpa using this
                · split at this
                  · simpa using this
                  · simp at this
            · simp at this
          have := hi c (by rw [hfr]; simp)
          rw [hcb] at this
          exact hb (hasN_iff.2 this)
      rw [this]
      exact ⟨[], hand_cls hf ho h (fun _ h => by cases h) (fun _ h => by cases h) hr⟩
  | .agg cs, r, v, kk, h, hr, hi => by
    simp only [expo] at h
    split at h
    · rename_i rs hrs
      cases h
      obtain ⟨vs, rfl, h2, h3⟩ := agg_inv hr
      obtain ⟨infos, H, hl⟩ := expoL_rep cs rs (fun i => vs.getD i undef) kk hrs h3 (by simpa [frIds] using hi)
      refine ⟨infos, by simpa [impB] using H.len, by simpa [frIds] using H.len2, by simpa [frIds] using H.info, by simpa [impB] using H.at_, fun K mb hmb => ?_⟩
      simp only [impV]
      exact .agg (by rw [impVL_len, hl, h2]) (H.rep K mb hmb)
    · cases h
  | .tup cs, r, v, kk, h, hr, hi => by
    simp only [expo] at h
    split at h
    · rename_i rs hrs
      cases h
      obtain ⟨vs, rfl, h2, h3⟩ := tup_inv hr
      obtain ⟨infos, H, hl⟩ := expoL_rep cs rs (fun i => vs.getD i undef) kk hrs h3 (by simpa [frIds] using hi)
      refine ⟨infos, by simpa [impB] using H.len, by simpa [frIds] using H.len2, by simpa [frIds] using H.info, by simpa [impB] using H.at_, fun K mb hmb => ?_⟩
      simp only [impV]
      exact .tup (by rw [impVL_len, hl, h2]) (H.rep K mb hmb)
    · cases h
  | .bool b, r, v, kk, h, hr, hi => ⟨[], hand_cls hf ho (by simpa only [expo] using h) (fun _ h => by cases h) (fun _ h => by cases h) hr⟩
  | .int j n, r, v, kk, h, hr, hi => ⟨[], hand_cls hf ho (by simpa only [expo] using h) (fun _ h => by cases h) (fun _ h => by cases h) hr⟩
  | .str s, r, v, kk, h, hr, hi => ⟨[], hand_cls hf ho (by simpa only [expo] using h) (fun _ h => by cases h) (fun _ h => by cases h) hr⟩
  | .v x, r, v, kk, h, hr, hi => ⟨[], hand_cls hf ho (by simpa only [expo] using h) (fun _ h => by cases h) (fun _ h => by cases h) hr⟩
  | .top, r, v, kk, h, hr, hi => ⟨[], hand_cls hf ho (by simpa only [expo] using h) (fun _ h => by cases h) (fun _ h => by cases h) hr⟩
  | .nn, r, v, kk, h, hr, hi => ⟨[], hand_cls hf ho (by simpa only [expo] using h) (fun _ h => by cases h) (fun _ h => by cases h) hr⟩
  | .nilS, r, v, kk, h, hr, hi => ⟨[], hand_cls hf ho (by simpa only [expo] using h) (fun _ h => by cases h) (fun _ h => by cases h) hr⟩
  | .sl _ _ _, r, v, kk, h, hr, hi => ⟨[], hand_cls hf ho (by simpa only [expo] using h) (fun _ h => by cases h) (fun _ h => by cases h) hr⟩
  | .cptr _, r, v, kk, h, hr, hi => ⟨[], hand_cls hf ho (by simpa only [expo] using h) (fun _ h => by cases h) (fun _ h => by cases h) hr⟩
  | .ptr _ _ _ _, r, v, kk, h, hr, hi => ⟨[], hand_cls hf ho (by simpa only [expo] using h) (fun _ h => by cases h) (fun _ h => by cases h) hr⟩
  | .mp _ _, r, v, kk, h, hr, hi => ⟨[], hand_cls hf ho (by simpa only [expo] using h) (fun _ h => by cases h) (fun _ h => by cases h) hr⟩
  | .fn _ _, r, v, kk, h, hr, hi => ⟨[], hand_cls hf ho (by simpa only [expo] using h) (fun _ h => by cases h) (fun _ h => by cases h) hr⟩
  | .fr _ _, r, v, kk, h, hr, hi => ⟨[], hand_cls hf ho (by simpa only [expo] using h) (fun _ h => by cases h) (fun _ h => by cases h) hr⟩
theorem expoL_rep {g : Bool} : ∀ (cs rs : List PV) (f : Nat → Value) (kk : Nat), expo.expoL g bl (kill ids bl) ids cs = some rs → (∀ (i : Nat) (p : PV), cs[i]? = some p → Rep m kk p (f i)) → (∀ b ∈ frIds.frIdsL g bl cs, b ∈ ids) →
    ∃ infos, HandL bl m w (lend m w (kill ids bl)).cell (frIds.frIdsL g bl cs) rs infos f ∧ rs.length = cs.length
  | [], rs, f, kk, h, hr, hi => by
    simp only [expo.expoL] at h
    cases h
    exact ⟨[], ⟨rfl, rfl, fun j b i hj => by simp [frIds.frIdsL] at hj, fun j x i hj => by simp [impB.impBL] at hj, fun K mb _ i p hp => by simp [impV.impVL] at hp⟩, rfl⟩
  | p :: cs, rs, f, kk, h, hr, hi => by
    simp only [expo.expoL] at h
    split at h
    · rename_i q hq
      split at h
      · rename_i qs hqs
        cases h
        simp only [frIds.frIdsL] at hi ⊢
        obtain ⟨i1, H1⟩ := expo_rep p q (f 0) kk hq (hr 0 p rfl) (fun b hb => hi b (by simp [hb]))
        obtain ⟨i2, H2, hl⟩ := expoL_rep cs qs (fun i => f (i + 1)) kk hqs (fun i p hp => hr (i + 1) p (by simpa using hp)) (fun b hb => hi b (by simp [hb]))
        refine ⟨i1 ++ i2, ⟨by simp [impB.impBL, H1.len, H2.len], by simp [H1.len2, H2.len2], fun j b i hj hji => ?_, fun j x i hj hji => ?_, fun K mb hmb i p hp => ?_⟩, by simp [hl]⟩
        · by_cases c : j < i1.length
          · rw [List.getElem?_append_left c] at hji
            rw [List.getElem?_append_left (by rw [← H1.len2]; exact c)] at hj
            exact H1.info j b i hj hji
          · rw [List.getElem?_append_right (by omega)] at hji
            rw [List.getElem?_append_right (by rw [← H1.len2]; omega), ← H1.len2] at hj
            exact H2.info _ b i hj hji
        · simp only [impB.impBL] at hj
          by_cases c : j < i1.length
          · rw [List.getElem?_append_left c] at hji
            rw [List.getElem?_append_left (by rw [← H1.len]; exact c)] at hj
            exact H1.at_ j x i hj hji
          · rw [List.getElem?_append_right (by omega)] at hji
            rw [List.getElem?_append_right (by rw [← H1.len]; omega), ← H1.len] at hj
            exact H2.at_ _ x i hj hji
        · simp only [impV.impVL] at hp
          cases i with
          | zero =>
            simp at hp
            subst hp
            refine (H1.rep K mb (fun j i hj => hmb j i ?_)).up (by simp)
            rw [List.getElem?_append_left (List.getElem?_eq_some_iff.1 hj).1]
            exact hj
          | succ i =>
            have := H2.rep (K + (impB q).length) mb (fun j i hj => by
              rw [Nat.add_assoc]
              refine hmb _ i ?_
              rw [List.getElem?_append_right (by rw [H1.len]; omega), H1.len, Nat.add_sub_cancel_left]
              exact hj) i p (by simpa using hp)
            refine this.up ?_
            rw [← H1.len]; simp; omega
      · cases h
    · cases h
end
end

theorem nodupN_spec : ∀ {l : List Nat}, nodupN l = true → ∀ (i j : Nat) (b : Nat), l[i]? = some b → l[j]? = some b → i = j
  | [], _, i, j, b, hi, _ => by simp at hi
  | c :: r, h, i, j, b, hi, hj => by
    simp only [nodupN, Bool.and_eq_true, Bool.not_eq_true'] at h
    have hc : ∀ t, r[t]? = some c → False := fun t ht => by
      have := hasN_iff.2 (List.mem_of_getElem? ht)
      rw [this] at h; cases h.1
    cases i with
    | zero =>
      simp at hi
      subst hi
      cases j with
      | zero => rfl
      | succ j => exact (hc j (by simpa using hj)).elim
    | succ i =>
      cases j with
      | zero => simp at hj; subst hj; exact (hc i (by simpa using hi)).elim
      | succ j => rw [nodupN_spec h.2 i j b (by simpa using hi) (by simpa using hj)]

theorem addCells_none {c : Nat → Nat → Option Value} {w : World} {gs : Nat → Prop} {b o : Nat} (h : c b o = none) (hg : ¬ gs b) : addCells c w gs b o = none := by simp [addCells, h, hg]

/-- what a function hands out at its end -/
theorem ret_okG {g : Bool} {m0 m : Mem} {k : Nat} {w0 w : World} {bl : Blks} {p r : PV} {v : Value} (h : expoG g bl p = some r) (hr : Rep m k p v) (hf : FrzOk m w) (ho : Owns w0.heap.size m k w bl) (hb : Below w0.heap.size w0 w) {N : Nat} (hg : Grow w0.heap.size N m0 m) : RetOk m0 w0 w r v := by
  unfold expoG at h
  simp only at h
  split at h
  · rename_i hnd
    obtain ⟨infos, H⟩ := expo_rep (ids := frIds g bl p) hf ho p r v k h hr (fun b hb => hb)
    refine ⟨hb, (lend m w (kill (frIds g bl p) bl)).cell, infos, fun b o u hu => addCells_old (hg.cell b o u hu), fun b o u hu => ?_, addCells_frz (mb := noBlk) hf noBlk, H.len, fun j x i hx hi => ⟨H.at_ j x i hx hi, fun hv => ?_⟩, fun j i j' i' hi hi' hv hv' hgg => ?_, H.rep⟩
    · rcases addCells_from hu with hu | ⟨id, x, i, hx, hi, hv, rfl⟩
      · exact hg.from_ b o u hu
      · exact .inr (ho.base id x i (kill_spec _ _ _ _ hx).1 hi hv).1
    · have hjl : j < (frIds g bl p).length := by rw [← H.len2]; exact (List.getElem?_eq_some_iff.1 hi).1
      obtain ⟨i0, x0, e1, e2, e3, e4⟩ := H.info j _ i (List.getElem?_eq_getElem hjl) hi
      rw [hv] at e4
      obtain ⟨b1, b2⟩ := ho.base _ x0 i0 e1 e2 e4.symm
      rw [e3]
      refine ⟨b1, fun o => addCells_none (b2 o) ?_⟩
      rintro ⟨id, x1, i1, hx1, hi1, hv1, hg1⟩
      obtain ⟨k1, k2⟩ := kill_spec _ _ _ _ hx1
      have := ho.inj id x1 i1 _ x0 i0 k1 hi1 e1 e2 hv1 e4.symm hg1
      rw [this] at k2
      exact k2 (List.getElem_mem hjl)
    · have hjl : j < (frIds g bl p).length := by rw [← H.len2]; exact (List.getElem?_eq_some_iff.1 hi).1
      have hjl' : j' < (frIds g bl p).length := by rw [← H.len2]; exact (List.getElem?_eq_some_iff.1 hi').1
      obtain ⟨i0, x0, e1, e2, e3, e4⟩ := H.info j _ i (List.getElem?_eq_getElem hjl) hi
      obtain ⟨i1, x1, d1, d2, d3, d4⟩ := H.info j' _ i' (List.getElem?_eq_getElem hjl') hi'
      have := ho.inj _ x0 i0 _ x1 i1 e1 e2 d1 d2 (by rw [← e4]; exact hv) (by rw [← d4]; exact hv') (by rw [← e3, ← d3]; exact hgg)
      exact nodupN_spec hnd j j' _ (List.getElem?_eq_getElem hjl) (by rw [this]; exact List.getElem?_eq_getElem hjl')
  · cases h

theorem ret_ok {m0 m : Mem} {k : Nat} {w0 w : World} {bl : Blks} {p r : PV} {v : Value} (h : expoAll bl p = some r) (hr : Rep m k p v) (hf : FrzOk m w) (ho : Owns w0.heap.size m k w bl) (hb : Below w0.heap.size w0 w) {N : Nat} (hg : Grow w0.heap.size N m0 m) : RetOk m0 w0 w r v := by
  unfold expoAll at h
  split at h
  · rename_i hq
    cases h
    exact ret_okG hq hr hf ho hb hg
  · exact ret_okG h hr hf ho hb hg

def resF (tmps : Array Value) : ResultVar → Sem Value
  | .tmp t => pure (tmps.getD t undef)
  | .cell a t => do loadVar t (← asAddr (tmps.getD a undef))

theorem cell_run {P : Program} {tmps : Array Value} {a : Nat} {t : TypeId} {u : Value} {w : World} (h : (Instr.loadAt t (tmps.getD a undef)).run P w = .ok u w) : (resF tmps (.cell a t)).run P w = .ok u w := by
  unfold Instr.loadAt Instr.sureAddr at h
  show (do loadVar t (← asAddr (tmps.getD a undef)) : Sem Value).run P w = _
  generalize tmps.getD a undef = x at h ⊢
  unfold asAddr
  split at h
  · exact h
  · simp at h

/-- the results' places -/
theorem res_run {P : Program} {fn : Func} {res : List RV} {B m k : _} {w : World} {st : St} {tmps : Array Value} (h : digRes P fn.results.toList = some res) (hs : ∀ t, Rep m k (st.sl.getD t .top) (tmps.getD t undef)) (he : EffIn B k m w st.bl) {p : PV} (hp : resO st res = some p) :
    ∃ v, (results fn tmps).run P w = .ok v w ∧ Rep m k p v := by
  have key : ∀ (l : List ResultVar) (ts : List RV), digRes P l = some ts → ∀ ps, mapO (RV.get st) ts = some ps → ∃ vs : List Value, (l.mapM (resF tmps)).run P w = Result.ok vs w ∧ vs.length = ps.length ∧ ∀ (i : Nat) (p : PV), ps[i]? = some p → Rep m k p (vs.getD i undef) := by
    intro l
    induction l with
    | nil => intro ts h ps hps; simp [digRes] at h; subst h; simp [mapO] at hps; subst hps; exact ⟨[], by simp, rfl, fun i p hp => by simp at hp⟩
    | cons x l ih =>
      have step : ∀ (r : RV) (ts' : List RV), digRes P l = some ts' → (∀ q, r.get st = some q → ∃ u, (resF tmps x).run P w = .ok u w ∧ Rep m k q u) → ∀ ps, mapO (RV.get st) (r :: ts') = some ps →
          ∃ vs : List Value, ((x :: l).mapM (resF tmps)).run P w = Result.ok vs w ∧ vs.length = ps.length ∧ ∀ (i : Nat) (p : PV), ps[i]? = some p → Rep m k p (vs.getD i undef) := by
        intro r ts' hts hx ps hps
        simp only [mapO] at hps
        split at hps
        · rename_i q hq
          split at hps
          · rename_i qs hqs
            cases hps
            obtain ⟨u, hu, hru⟩ := hx q hq
            obtain ⟨vs, e1, e2, e3⟩ := ih ts' hts qs hqs
            refine ⟨u :: vs, by rw [List.mapM_cons]; simp [hu, e1], by simp [e2], fun i p hp => ?_⟩
            cases i with
            | zero => simp at hp; subst hp; exact hru
            | succ i => simpa using e3 i p (by simpa using hp)
          · cases hps
        · cases hps
      intro ts h ps hps
      cases x with
      | tmp t =>
        simp only [digRes] at h
        split at h
        · rename_i ts' hts
          cases h
          exact step _ ts' hts (fun q hq => by simp only [RV.get] at hq; cases hq; exact ⟨_, by simp [resF], hs t⟩) ps hps
        · cases h
      | cell a t =>
        simp only [digRes] at h
        split at h
        · rename_i g i ts' hg hi hts
          split at h
          · rename_i h1
            cases h
            refine step _ ts' hts (fun q hq => ?_) ps hps
            simp only [RV.get] at hq
            obtain ⟨u, hu, hru⟩ := load_run he.pur hg hi h1 (hs a) hq
            exact ⟨u, cell_run hu, hru⟩
          · cases h
        · cases h
  have hrun : ∀ vs : List Value, (fn.results.toList.mapM (resF tmps)).run P w = Result.ok vs w → (results fn tmps).run P w = .ok (if h : vs.toArray.size = 1 then vs.toArray[0] else .tuple vs.toArray) w := by
    intro vs hv
    have hrs : results fn tmps = (do let vs ← fn.results.mapM (resF tmps); pure (if h : vs.size = 1 then vs[0] else .tuple vs)) := by
      unfold results
      congr 1
    rw [hrs, Array.mapM_eq_mapM_toList]
    simp only [Sem.run_bind, Sem.run_map, hv, Result.andThen_ok, Sem.run_pure]
  have tup : ∀ (ps : List PV) (vs : List Value), vs.length = ps.length → (∀ (i : Nat) (p : PV), ps[i]? = some p → Rep m k p (vs.getD i undef)) → Rep m k (.tup ps) (.tuple vs.toArray) := fun ps vs hl hr => .tup (by simp [hl]) (fun i p hp => by rw [getD_arr]; exact hr i p hp)
  match res, hp with
  | [r], hp =>
    simp only [resO] at hp
    obtain ⟨vs, e1, e2, e3⟩ := key _ _ h [p] (by simp [mapO, hp])
    match vs, e2 with
    | [v], _ => exact ⟨_, hrun _ e1, by simpa using e3 0 p rfl⟩
  | [], hp =>
    simp only [resO, mapO] at hp
    cases hp
    obtain ⟨vs, e1, e2, e3⟩ := key _ _ h [] rfl
    refine ⟨_, hrun _ e1, ?_⟩
    rw [dif_neg (by simp [e2])]
    exact tup _ _ e2 e3
  | r :: u :: rs, hp =>
    simp only [resO] at hp
    split at hp
    · rename_i ps hps
      cases hp
      obtain ⟨vs, e1, e2, e3⟩ := key _ _ h ps hps
      have hl := (mapO_spec hps).1
      refine ⟨_, hrun _ e1, ?_⟩
      rw [dif_neg (by simp at hl; simp [e2]; omega)]
      exact tup _ _ e2 e3
    · cases hp

/-- a function of which something is given -/
def ExtOk0 (P : Program) (f : Nat) (x : List PV → Option PV) : Prop :=
  ∀ args r, x args = some r → (∃ fn, P.funcs[f]? = some fn ∧ fn.body.isSome = true ∧ fn.name ≠ "runtime.NumGoroutine") ∧
    ∀ (m : Mem) (w : World) (vs : Array Value), args.length = vs.size → (∀ (i : Nat) (p : PV), args[i]? = some p → Rep m 0 p (vs.getD i undef)) → FrzOk m w →
      Calls P f vs w fun e w' => ∃ v, e = .returned v ∧ RetOk m w w' r v
def ExtOk (P : Program) (f : Nat) (x : List PV → Option PV) : Prop :=
  ∀ args r, x args = some r →
    ∀ (m : Mem) (w : World) (vs : Array Value), args.length = vs.size → (∀ (i : Nat) (p : PV), args[i]? = some p → Rep m 0 p (vs.getD i undef)) → FrzOk m w →
      CallsX P f vs w fun e w' => ∃ v, e = .returned v ∧ RetOk m w w' r v
theorem extOk_of {P : Program} {f : Nat} {x : List PV → Option PV} (h : ExtOk0 P f x) : ExtOk P f x := fun args r hx m w vs hl hr hf =>
  .inl ⟨(h args r hx).1, (h args r hx).2 m w vs hl hr hf⟩
/-- the same upon the caller's blocks -/
def ExtSOk (P : Program) (f : Nat) (x : List PV → Blks → Option (PV × Blks)) : Prop :=
  ∀ args bl p bl', x args bl = some (p, bl') → (∃ fn, P.funcs[f]? = some fn ∧ fn.body.isSome = true ∧ fn.name ≠ "runtime.NumGoroutine") ∧
    ∀ (B k : Nat) (m : Mem) (w : World) (vs : Array Value), args.length = vs.size → (∀ (i : Nat) (p : PV), args[i]? = some p → Rep m k p (vs.getD i undef)) → EffIn B k m w bl →
      Calls P f vs w fun e w' => ∃ v m' k', e = .returned v ∧ EffOut B k m w bl bl' p v m' w' k'
def FnOk (P : Program) (f : Nat) (fc : AFn) : Prop := match fc.ext with
  | some (.p x) => ExtOk P f x
  | some (.s x) => ExtSOk P f x
  | none => ∃ fn own ks, P.funcs[f]? = some fn ∧ digFn P own ks fn = some fc
theorem fnok {P : Program} {f : Nat} {fc : AFn} {fn : Func} {own : List Nat} {ks : List (List Nat)} (h1 : P.funcs[f]? = some fn) (h2 : digFn P own ks fn = some fc) : FnOk P f fc := by
  have : fc.ext = none := by
    unfold digFn at h2
    split at h2
    · split at h2
      · split at h2
        · cases h2
        · cases h2; rfl
      · cases h2
    · cases h2
  unfold FnOk
  rw [this]
  exact ⟨fn, own, ks, h1, h2⟩
def DOk (P : Program) (D : Nat → Option AFn) : Prop := ∀ f fc, D f = some fc → FnOk P f fc

/-- arguments in their slots -/
theorem args_slots {m : Mem} {k np nt : Nat} {args : List PV} {vs : Array Value} (hl : args.length = vs.size) (hargs : ∀ (i : Nat) (p : PV), args[i]? = some p → Rep m k p (vs.getD i undef)) (hnp : args.length = np) :
    (vs ++ Array.replicate (nt - vs.size) undef).size = (args ++ List.replicate (nt - np) PV.top).length ∧ ∀ t, Rep m k ((args ++ List.replicate (nt - np) PV.top).getD t .top) ((vs ++ Array.replicate (nt - vs.size) undef).getD t undef) := by
  refine ⟨by simp [hl, ← hnp], fun t => ?_⟩
  by_cases ht : t < args.length
  · have h1 := hargs t _ (List.getElem?_eq_getElem ht)
    rw [List.getD_eq_getElem?_getD, List.getElem?_append_left ht, List.getElem?_eq_getElem ht]
    rw [Array.getD_eq_getD_getElem?] at h1 ⊢
    rw [Array.getElem?_append_left (by omega)]
    exact h1
  · rw [List.getD_eq_getElem?_getD, List.getElem?_append_right (by omega)]
    have : ((List.replicate (nt - np) PV.top)[t - args.length]?).getD .top = .top := by
      rw [List.getElem?_replicate]; split <;> rfl
    rw [this]
    exact .top

theorem Owns.up {B k k' : Nat} {m : Mem} {w : World} {bl : Blks} (h : Owns B m k w bl) (hk : k ≤ k') : Owns B m k' w bl :=
  ⟨fun id x i hx hi => (h.at_ id x i hx hi).mono (MLe.refl _ _) hk (fun _ => rfl), h.base, h.inj⟩

/-- what is left of a call upon the caller's blocks -/
theorem endT_ok {B k k' : Nat} {m m' : Mem} {w w' : World} {bl bl' : Blks} {p : PV} {v : Value} (hin : EffIn B k m w bl) (hr : Rep m' k' p v) (he : EffIn B k' m' w' bl') (hnb : bl.length ≤ bl'.length) (hnk : bl.length ≤ k') (hb : Below B w w')
    (hg : Grow B bl.length m m') : ∃ m'' k'', EffOut B k m w bl (endT bl.length p bl').2 (endT bl.length p bl').1 v m'' w' k'' := by
  have hs : StOk B bl.length m' k' w' ⟨[p], bl'⟩ #[v] := ⟨rfl, fun t => by
    cases t with
    | zero => exact hr
    | succ t => exact .top, he, hnb, hnk⟩
  obtain ⟨m2, k2, s2, c2, b2⟩ := norm_ok [0] bl.length hs (Nat.le_refl _)
  have hp : (norm [0] bl.length ⟨[p], bl'⟩).sl = [p] := by
    unfold norm trimB
    split <;> simp [forget, hasN]
  have hr2 : Rep m2 k2 p v := by
    have := s2.sl 0
    rw [hp] at this
    exact this
  refine ⟨m2, max k k2, hr2.up (Nat.le_max_right _ _), ⟨fun b o u hu => by rw [c2]; exact hg.cell b o u hu, fun b i hb hi => ?_⟩, Nat.le_max_left _ _, s2.eff.frz, s2.eff.own.up (Nat.le_max_right _ _), hb, fun b o u hu => by rw [c2] at hu; exact hg.from_ b o u hu, s2.nb, s2.eff.fresh⟩
  have hlt : b < bl.length := by
    rcases Nat.lt_or_ge b bl.length with h | h
    · exact h
    · rw [hin.fresh b h] at hi; cases hi
  rw [b2 b hlt]
  exact hg.blk b i hlt hi

/-- FUNCTIONS DO WHAT THEIR PURE READING SAYS -/
theorem evF_sound {P : Program} {D : Nat → Option AFn} (hD : DOk P D) : ∀ n, CallOk P (evF D n)
  | 0 => ⟨fun f args r h => by simp [evF] at h, fun f args bl p bl' h => by simp [evF] at h⟩
  | n + 1 => by
    have ih := evF_sound hD n
    refine ⟨fun f args r h => ?_, fun f args bl p bl' h => ?_⟩
    · simp only [evF] at h
      split at h
      · rename_i fc hfc
        have hfo := hD f fc hfc
        unfold FnOk at hfo
        split at h
        · rename_i x hext
          rw [hext] at hfo
          exact hfo args r h
        · cases h
        rename_i hext
        rw [hext] at hfo
        obtain ⟨fn, own, ks, hfn, hdig⟩ := hfo
        unfold digFn at hdig
        split at hdig
        · rename_i c hbody
          split at hdig
          · rename_i ac ks' res hcode hres
            split at hdig
            · cases hdig
            · rename_i hname
              cases hdig
              split at h
              · rename_i hnp
                refine fun m w vs hl hargs hfrz => .inl ⟨⟨fn, hfn, by rw [hbody]; rfl, hname⟩, ?_⟩
                simp only at h hnp
                cases hout : evCode (evF D n) n ac ⟨args ++ List.replicate (fn.ntmps - (fn.params.size + fn.nfree)) .top, []⟩ with
                | none => rw [hout] at h; simp [endP] at h
                | some out =>
                  rw [hout] at h
                  refine calls_of_wp hfn hbody ?_
                  obtain ⟨q1, q2⟩ := args_slots (m := ⟨m.cell, noBlk⟩) (k := 0) (nt := fn.ntmps) hl (fun i p hp => (hargs i p hp).re (fun _ _ _ h => h)) hnp
                  have hs : StOk w.heap.size 0 ⟨m.cell, noBlk⟩ 0 w ⟨args ++ List.replicate (fn.ntmps - (fn.params.size + fn.nfree)) .top, []⟩ (vs ++ Array.replicate (fn.ntmps - vs.size) undef) :=
                    ⟨q1, q2, ⟨⟨fun b o u hu => hfrz.1 b o u hu, hfrz.2⟩, ⟨fun id x i hx => by simp at hx, fun id x i hx => by simp at hx, fun id x i id' x' i' hx => by simp at hx⟩, Nat.le_refl _, fun _ _ => rfl⟩, Nat.zero_le _, Nat.le_refl _⟩
                  have fin : ∀ (st' : St) (p : PV), resO st' res = some p → expoAll st'.bl p = some r → ∀ m' k' w' a', Fin w.heap.size 0 ⟨m.cell, noBlk⟩ w { tmps := vs ++ Array.replicate (fn.ntmps - vs.size) undef, defers := [] } st' m' k' w' a' →
                      a'.defers = [] ∧ ∃ v, (results fn a'.tmps).run P w' = .ok v w' ∧ (fun e w' => ∃ v, e = Ending.returned v ∧ RetOk m w w' r v) (.returned v) w' := by
                    intro st' p hp hex m' k' w' a' f
                    obtain ⟨v, h1, h2⟩ := res_run (P := P) hres f.st.sl f.st.eff hp
                    exact ⟨f.defers, v, h1, v, rfl, ret_ok hex h2 f.st.eff.frz f.st.eff.own f.bel ⟨fun b o u hu => f.grow.cell b o u hu, fun b o u hu => f.grow.from_ b o u hu, fun b i hb => absurd hb (Nat.not_lt_zero _)⟩⟩
                  refine code_sound (B := w.heap.size) ih n c ks ks' ac hcode _ out _ w ⟨m.cell, noBlk⟩ 0 _ hout hs ?_
                  cases out with
                  | normal st' =>
                    simp only [endP] at h
                    split at h
                    · rename_i p hp; exact fun m' k' w' a' f => fin st' p hp h m' k' w' a' f
                    · cases h
                  | ret st' =>
                    simp only [endP] at h
                    split at h
                    · rename_i p hp; exact fun m' k' w' a' f => fin st' p hp h m' k' w' a' f
                    · cases h
                  | exit id st' => simp [endP] at h
              · cases h
          · cases hdig
        · cases hdig
      · cases h
    · simp only [evF] at h
      split at h
      · rename_i fc hfc
        have hfo := hD f fc hfc
        unfold FnOk at hfo
        split at h
        · rename_i x hext
          rw [hext] at hfo
          exact hfo args bl p bl' h
        · cases h
        rename_i hext
        rw [hext] at hfo
        obtain ⟨fn, own, ks, hfn, hdig⟩ := hfo
        unfold digFn at hdig
        split at hdig
        · rename_i c hbody
          split at hdig
          · rename_i ac ks' res hcode hres
            split at hdig
            · cases hdig
            · rename_i hname
              cases hdig
              split at h
              · rename_i hnp
                refine ⟨⟨fn, hfn, by rw [hbody]; rfl, hname⟩, fun B k m w vs hl hargs hin => ?_⟩
                simp only at h hnp
                cases hout : evCode (evF D n) n ac ⟨args ++ List.replicate (fn.ntmps - (fn.params.size + fn.nfree)) .top, bl⟩ with
                | none => rw [hout] at h; simp [endS] at h
                | some out =>
                  rw [hout] at h
                  refine calls_of_wp hfn hbody ?_
                  obtain ⟨q1, q2⟩ := args_slots (m := m) (k := max k bl.length) (nt := fn.ntmps) hl (fun i p hp => (hargs i p hp).up (Nat.le_max_left _ _)) hnp
                  have hs : StOk B bl.length m (max k bl.length) w ⟨args ++ List.replicate (fn.ntmps - (fn.params.size + fn.nfree)) .top, bl⟩ (vs ++ Array.replicate (fn.ntmps - vs.size) undef) :=
                    ⟨q1, q2, ⟨hin.frz, hin.own.up (Nat.le_max_left _ _), hin.hB, hin.fresh⟩, Nat.le_refl _, Nat.le_max_right _ _⟩
                  have fin : ∀ (st' : St) (p0 : PV), resO st' res = some p0 → endT bl.length p0 st'.bl = (p, bl') → ∀ m' k' w' a', Fin B bl.length m w { tmps := vs ++ Array.replicate (fn.ntmps - vs.size) undef, defers := [] } st' m' k' w' a' →
                      a'.defers = [] ∧ ∃ v, (results fn a'.tmps).run P w' = .ok v w' ∧ (fun e w' => ∃ v m' k', e = Ending.returned v ∧ EffOut B k m w bl bl' p v m' w' k') (.returned v) w' := by
                    intro st' p0 hp hex m' k' w' a' f
                    obtain ⟨v, h1, h2⟩ := res_run (P := P) hres f.st.sl f.st.eff hp
                    obtain ⟨m2, k2, h3⟩ := endT_ok hin h2 f.st.eff f.st.nb f.st.nk f.bel f.grow
                    rw [hex] at h3
                    exact ⟨f.defers, v, h1, v, m2, k2, rfl, h3⟩
                  refine code_sound (B := B) ih n c ks ks' ac hcode _ out _ w m (max k bl.length) _ hout hs ?_
                  cases out with
                  | normal st' =>
                    simp only [endS] at h
                    split at h
                    · rename_i p0 hp; exact fun m' k' w' a' f => fin st' p0 hp (Option.some.inj h) m' k' w' a' f
                    · cases h
                  | ret st' =>
                    simp only [endS] at h
                    split at h
                    · rename_i p0 hp; exact fun m' k' w' a' f => fin st' p0 hp (Option.some.inj h) m' k' w' a' f
                    · cases h
                  | exit id st' => simp [endS] at h
              · cases h
          · cases hdig
        · cases hdig
      · cases h

#print axioms evF_sound
end Go.Proofs.Ytlnaibkpmklkiaa
