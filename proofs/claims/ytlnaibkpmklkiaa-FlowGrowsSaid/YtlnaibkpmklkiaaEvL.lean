/- Calls: what is lent, and what comes back. -/
import Derived.Test.YtlnaibkpmklkiaaEvK
namespace Go.Proofs.Ytlnaibkpmklkiaa
open Go Go.RowKit
set_option linter.unusedSectionVars false
variable [Bs]
set_option linter.unusedVariables false
set_option linter.unusedSimpArgs false

theorem mapO_spec {α β : Type} {f : α → Option β} : ∀ {l : List α} {r : List β}, mapO f l = some r → r.length = l.length ∧ ∀ (i : Nat) (b : β), r[i]? = some b → ∃ a, l[i]? = some a ∧ f a = some b
  | [], r, h => by simp [mapO] at h; subst h; exact ⟨rfl, fun i b hb => by simp at hb⟩
  | a :: l, r, h => by
    simp only [mapO] at h
    split at h
    · rename_i b hb
      split at h
      · rename_i bs hbs
        cases h
        obtain ⟨h1, h2⟩ := mapO_spec hbs
        refine ⟨by simp [h1], fun i c hc => ?_⟩
        cases i with
        | zero => simp at hc; subst hc; exact ⟨a, rfl, hb⟩
        | succ i => simpa using h2 i c (by simpa using hc)
      · cases h
    · cases h

open Classical in
/-- the memory with the cells of some blocks frozen besides -/
noncomputable def addCells (c : Nat → Nat → Option Value) (w : World) (gs : Nat → Prop) : Nat → Nat → Option Value := fun b o =>
  match c b o with
  | some v => some v
  | none => if gs b then match w.cell? ⟨b, o, none⟩ with
      | some v => if v.oneCell' then some v else none
      | none => none
    else none

theorem addCells_old {c : Nat → Nat → Option Value} {w : World} {gs : Nat → Prop} {b o : Nat} {v : Value} (h : c b o = some v) : addCells c w gs b o = some v := by simp [addCells, h]
theorem addCells_new {c : Nat → Nat → Option Value} {w : World} {gs : Nat → Prop} {b o : Nat} {v : Value} (hc : ∀ u, c b o = some u → w.cell? ⟨b, o, none⟩ = some u) (hg : gs b) (h : w.cell? ⟨b, o, none⟩ = some v) (h1 : v.oneCell' = true) : addCells c w gs b o = some v := by
  unfold addCells
  cases hcb : c b o with
  | some u => have := hc u hcb; rw [h] at this; simp only; exact this.symm
  | none => simp [hg, h, h1]
theorem addCells_frz {c : Nat → Nat → Option Value} {mb : Nat → Option Info} {w : World} {gs : Nat → Prop} (h : FrzOk ⟨c, mb⟩ w) (mb' : Nat → Option Info) : FrzOk ⟨addCells c w gs, mb'⟩ w := by
  refine ⟨fun b o v hv => ?_, fun b o v hv => addCells_old (h.2.1 b o v hv), h.2.2⟩
  simp only [addCells] at hv
  split at hv
  · rename_i u hu
    cases hv
    exact h.1 b o _ hu
  · split at hv
    · split at hv
      · rename_i u hu
        split at hv
        · cases hv; exact ⟨hu, by assumption⟩
        · cases hv
      · cases hv
    · cases hv
theorem addCells_are {w : World} {gs : Nat → Prop} {b o : Nat} {v : Value} (hv : addCells (fun _ _ => none) w gs b o = some v) : w.cell? ⟨b, o, none⟩ = some v ∧ v.oneCell' = true := by
  simp only [addCells] at hv
  split at hv
  · split at hv
    · rename_i u hu
      split at hv
      · cases hv; exact ⟨hu, by assumption⟩
      · cases hv
    · cases hv
  · cases hv
theorem addCells_from {c : Nat → Nat → Option Value} {w : World} {gs : Nat → Prop} {b o : Nat} {v : Value} (h : addCells c w gs b o = some v) : c b o = some v ∨ gs b := by
  simp only [addCells] at h
  split at h
  · rename_i u hu; cases h; exact .inl hu
  · split at h
    · right; assumption
    · cases h

/-- the blocks of the call's own -/
def OwnG (m : Mem) (BL : Blks) (b : Nat) : Prop := ∃ id x i, BL[id]? = some (some x) ∧ m.blk id = some i ∧ i.virt = false ∧ i.g = b
noncomputable def lend (m : Mem) (w : World) (BL : Blks) : Mem := ⟨addCells m.cell w (OwnG m BL), m.blk⟩

/-- a slice over a block, all of whose cells are frozen -/
theorem sl_of_own {m m' : Mem} {k : Nat} {w : World} {i : Info} {x : Blk} {lo len : Nat} {v : Value} {rs : List (List PV)} (hat : BlkAt m k w i x) (ho : OwnVal i lo len v) (hle : lo + len ≤ x.rows.length)
    (hlen : rs.length = x.rows.length) (hrow : ∀ r ∈ rs, r.length = x.e)
    (hcell : ∀ cur ty, i.virt = false → w.heap[i.g]? = some (.cells cur ty (0, 0)) → ∀ (r : Nat) (row : List PV) (j : Nat) (q : PV), rs[r]? = some row → row[j]? = some q → ∃ u, cur[r * x.e + j]? = some u ∧ m'.cell i.g (r * x.e + j) = some u ∧ Rep m' 0 q u) :
    Rep m' 0 (.sl false x.e ((rs.drop lo).take len)) v := by
  have hlen2 : ((rs.drop lo).take len).length = len := by simp; omega
  rcases ho with ⟨hz, _, a, rfl⟩ | ⟨hv, cap, rfl, h1, h2, h3⟩
  · have : (rs.drop lo).take len = [] := List.eq_nil_of_length_eq_zero (by omega)
    rw [this]
    exact .slz (by simp [maxLen]) (fun h => by cases h)
  · rcases hat.mem with ⟨hv', _⟩ | ⟨_, cur, ty, m1, m2, m3, m4, m5⟩
    · rw [hv] at hv'; cases hv'
    · have key : ∀ (r : Nat) (row : List PV) (j : Nat) (q : PV), ((rs.drop lo).take len)[r]? = some row → row[j]? = some q → ∃ u, m'.cell i.g (lo * i.e + r * x.e + j) = some u ∧ Rep m' 0 q u := by
        intro r row j q hr hj
        rw [List.getElem?_take] at hr
        split at hr
        · rw [List.getElem?_drop] at hr
          obtain ⟨u, _, g2, g3⟩ := hcell cur ty hv m1 _ row j q hr hj
          refine ⟨u, ?_, g3⟩
          rw [← g2, hat.e, Nat.add_mul]
        · cases hr
      have := Rep.sl (m := m') (k := 0) (ex := false) (e := x.e) (rows := (rs.drop lo).take len) (b := i.g) (off := lo * i.e) (cap := cap) (vals := fun r j => (m'.cell i.g (lo * i.e + r * x.e + j)).getD undef)
        (by omega) (by omega) (fun h => by cases h) (fun r hr => hrow r (List.mem_of_mem_drop (List.mem_of_mem_take hr)))
        (fun r j row q hr hj => by obtain ⟨u, g1, _⟩ := key r row j q hr hj; simp [g1])
        (fun r j row q hr hj => by obtain ⟨u, g1, g2⟩ := key r row j q hr hj; simpa [g1] using g2)
      rw [hlen2] at this
      exact this

/-- what is lent reads the same over the memory in which the own blocks are frozen -/
theorem cls_rep {B k : Nat} {m : Mem} {w : World} {bl BL : Blks} (hf : FrzOk m w) (ho : Owns B m k w BL) (hsub : ∀ (j : Nat) (x : Option Blk), bl[j]? = some x → BL[j]? = some x) :
    ∀ (n : Nat) (p q : PV) (v : Value) (k' : Nat), cls n bl p = some q → Rep m k' p v → Rep (lend m w BL) 0 q v
  | 0, p, q, v, k', h, _ => by simp [cls] at h
  | n + 1, p, q, v, k', h, hr => by
    have old : ∀ b o v, m.cell b o = some v → (lend m w BL).cell b o = some v := fun b o v h => addCells_old h
    simp only [cls] at h
    split at h
    · rename_i hlt
      cases h
      exact (hr.down hlt).re old
    · have lst : ∀ (cs qs : List PV) (vs : Array Value), mapO (cls n bl) cs = some qs → cs.length = vs.size → (∀ (i : Nat) (p : PV), cs[i]? = some p → Rep m k' p (vs.getD i undef)) →
          qs.length = vs.size ∧ ∀ (i : Nat) (p : PV), qs[i]? = some p → Rep (lend m w BL) 0 p (vs.getD i undef) := by
        intro cs qs vs hm hl hh
        obtain ⟨h1, h2⟩ := mapO_spec hm
        refine ⟨h1.trans hl, fun i q hq => ?_⟩
        obtain ⟨a, ha, hfa⟩ := h2 i q hq
        exact cls_rep hf ho hsub n a q _ k' hfa (hh i a ha)
      have cellG : ∀ (b : Nat) (x : Blk) (i : Info), BL[b]? = some (some x) → m.blk b = some i → ∀ cur ty, i.virt = false → w.heap[i.g]? = some (.cells cur ty (0, 0)) → ∀ (t : Nat) (u : Value), cur[t]? = some u → u.oneCell' = true → (lend m w BL).cell i.g t = some u := by
        intro b x i hx hi cur ty hv hg t u hu h1
        refine addCells_new (fun u hu => (hf.1 _ _ _ hu).1) ⟨b, x, i, hx, hi, hv, rfl⟩ ?_ h1
        simpa [World.cell?, hg] using hu
      split at h
      · rename_i b ver lo len _
        split at h
        · rename_i x hgb
          obtain ⟨hbl, hver⟩ := getB_spec hgb
          split at h
          · rename_i hle
            obtain ⟨i, g1, g2, g3, g4, g5⟩ := own_inv hr
            have hat := (ho.at_ b x i (hsub _ _ hbl) g2).blk (getB_ne hgb)
            split at h
            · rename_i rs hrs
              cases h
              cases hfl : x.flat
              · rw [hfl] at hrs
                simp only [Bool.false_eq_true, if_false] at hrs
                obtain ⟨r1, r2⟩ := mapO_spec hrs
                refine sl_of_own hat (g5 (hat.ver.trans hver)) hle r1 (fun r hr => ?_) (fun cur ty hv hg r row j q hrow hj => ?_)
                · obtain ⟨t, ht⟩ := List.getElem?_of_mem hr
                  obtain ⟨a, ha, hfa⟩ := r2 t r ht
                  rw [(mapO_spec hfa).1]
                  exact hat.rowl a (List.mem_of_getElem? ha)
                · obtain ⟨row0, ha, hfa⟩ := r2 r row hrow
                  obtain ⟨q0, hq0, hfq⟩ := (mapO_spec hfa).2 j q hj
                  rcases hat.mem with ⟨hv', _⟩ | ⟨_, cur', ty', m1, m2, m3, m4, m5⟩
                  · rw [hv] at hv'; cases hv'
                  · rw [hg] at m1
                    cases m1
                    obtain ⟨u, hu, h1, hrep⟩ := m5 r row0 j q0 ha hq0
                    exact ⟨u, hu, cellG b x i (hsub _ _ hbl) g2 cur ty hv hg _ u hu h1, cls_rep hf ho hsub n q0 q u _ hfq hrep⟩
              · rw [hfl] at hrs
                simp only [if_true] at hrs
                cases hrs
                refine sl_of_own hat (g5 (hat.ver.trans hver)) hle rfl hat.rowl (fun cur ty hv hg r row j q hrow hj => ?_)
                rcases hat.mem with ⟨hv', _⟩ | ⟨_, cur', ty', m1, m2, m3, m4, m5⟩
                · rw [hv] at hv'; cases hv'
                · rw [hg] at m1
                  cases m1
                  rw [hfl] at m5
                  obtain ⟨u, hu, h1, hrep⟩ := m5 r row j q hrow hj
                  simp only [if_true] at hrep
                  exact ⟨u, hu, cellG b x i (hsub _ _ hbl) g2 cur ty hv hg _ u hu h1, hrep.re old⟩
            · cases h
          · cases h
        · cases h
      · rename_i b ver r off _
        split at h
        · rename_i x hgb
          obtain ⟨hbl, hver⟩ := getB_spec hgb
          split at h
          · rename_i row hrow
            obtain ⟨i, g1, g2, g3, g4, g5⟩ := ptr_inv hr
            have hat := (ho.at_ b x i (hsub _ _ hbl) g2).blk (getB_ne hgb)
            split at h
            · rename_i row' hrow'
              cases h
              rcases hat.mem with ⟨_, h0⟩ | ⟨hv, cur, ty, m1, m2, m3, m4, m5⟩
              · rw [h0] at hrow; simp at hrow
              · rw [g5 (hat.ver.trans hver) hv]
                have key : ∀ (j : Nat) (q : PV), row'[j]? = some q → ∃ u, (lend m w BL).cell i.g (r * i.e + j) = some u ∧ Rep (lend m w BL) 0 q u := by
                  intro j q hj
                  cases hfl : x.flat
                  · rw [hfl] at hrow'
                    simp only [Bool.false_eq_true, if_false] at hrow'
                    obtain ⟨q0, hq0, hfq⟩ := (mapO_spec hrow').2 j q hj
                    obtain ⟨u, hu, h1, hrep⟩ := m5 r row j q0 hrow hq0
                    exact ⟨u, by rw [hat.e]; exact cellG b x i (hsub _ _ hbl) g2 cur ty hv m1 _ u hu h1, cls_rep hf ho hsub n q0 q u _ hfq hrep⟩
                  · rw [hfl] at hrow' m5
                    simp only [if_true] at hrow'
                    cases hrow'
                    obtain ⟨u, hu, h1, hrep⟩ := m5 r row j q hrow hj
                    simp only [if_true] at hrep
                    exact ⟨u, by rw [hat.e]; exact cellG b x i (hsub _ _ hbl) g2 cur ty hv m1 _ u hu h1, hrep.re old⟩
                exact rep_cptr_off key
            · cases h
          · cases h
        · cases h
      · split at h
        · rename_i qs hqs
          cases h
          obtain ⟨vs, rfl, h2, h3⟩ := agg_inv hr
          obtain ⟨l1, l2⟩ := lst _ _ vs hqs h2 h3
          exact .agg l1 l2
        · cases h
      · split at h
        · rename_i qs hqs
          cases h
          obtain ⟨vs, rfl, h2, h3⟩ := tup_inv hr
          obtain ⟨l1, l2⟩ := lst _ _ vs hqs h2 h3
          exact .tup l1 l2
        · cases h
      · split at h
        · rename_i qs hqs
          cases h
          obtain ⟨vs, rfl, h2, h3⟩ := fn_inv hr
          obtain ⟨l1, l2⟩ := lst _ _ vs hqs h2 h3
          exact .fn l1 l2
        · cases h
      · cases h

end Go.Proofs.Ytlnaibkpmklkiaa
