/- The evaluator: a pure reading of the code, and that it is right; several texts in one. -/
import Derived.Test.YtidkdiooempkpaaDoorGa
/- Calls: what is lent, and what comes back. -/
namespace Go.Proofs.YtidkdiooempkpaaDoor
open Go Go.RowKit
set_option linter.unusedSectionVars false
variable [Bs]
set_option linter.unusedVariables false
set_option linter.unusedSimpArgs false

theorem mapO_spec {α β : Type} {f : α → Option β} : ∀ {l : List α} {r : List β}, mapO f l = some r → r.length = l.length ∧ ∀ (i : Nat) (b : β), r[i]? = some b → ∃ a, l[i]? = some a ∧ f a = some b
  | [], r, h => by simp [mapO] at h; subst h; exact ⟨rfl, fun i b hb => by simp at hb⟩
  | a :: l, r, h => by
    simp only [mapO] at h
    split at h
    · rename_i b hb
      split at h
      · rename_i bs hbs
        cases h
        obtain ⟨h1, h2⟩ := mapO_spec hbs
        refine ⟨by simp [h1], fun i c hc => ?_⟩
        cases i with
        | zero => simp at hc; subst hc; exact ⟨a, rfl, hb⟩
        | succ i => simpa using h2 i c (by simpa using hc)
      · cases h
    · cases h

open Classical in
/-- the memory with the cells of some blocks frozen besides -/
noncomputable def addCells (c : Nat → Nat → Option Value) (w : World) (gs : Nat → Prop) : Nat → Nat → Option Value := fun b o =>
  match c b o with
  | some v => some v
  | none => if gs b then match w.cell? ⟨b, o, none⟩ with
      | some v => if v.oneCell' then some v else none
      | none => none
    else none

theorem addCells_old {c : Nat → Nat → Option Value} {w : World} {gs : Nat → Prop} {b o : Nat} {v : Value} (h : c b o = some v) : addCells c w gs b o = some v := by simp [addCells, h]
theorem addCells_new {c : Nat → Nat → Option Value} {w : World} {gs : Nat → Prop} {b o : Nat} {v : Value} (hc : ∀ u, c b o = some u → w.cell? ⟨b, o, none⟩ = some u) (hg : gs b) (h : w.cell? ⟨b, o, none⟩ = some v) (h1 : v.oneCell' = true) : addCells c w gs b o = some v := by
  unfold addCells
  cases hcb : c b o with
  | some u => have := hc u hcb; rw [h] at this; simp only; exact this.symm
  | none => simp [hg, h, h1]
theorem addCells_frz {c : Nat → Nat → Option Value} {mb : Nat → Option Info} {w : World} {gs : Nat → Prop} (h : FrzOk ⟨c, mb⟩ w) (mb' : Nat → Option Info) : FrzOk ⟨addCells c w gs, mb'⟩ w := by
  refine ⟨fun b o v hv => ?_, fun b o v hv => addCells_old (h.2.1 b o v hv), h.2.2⟩
  simp only [addCells] at hv
  split at hv
  · rename_i u hu
    cases hv
    exact h.1 b o _ hu
  · split at hv
    · split at hv
      · rename_i u hu
        split at hv
        · cases hv; exact ⟨hu, by assumption⟩
        · cases hv
      · cases hv
    · cases hv
theorem addCells_are {w : World} {gs : Nat → Prop} {b o : Nat} {v : Value} (hv : addCells (fun _ _ => none) w gs b o = some v) : w.cell? ⟨b, o, none⟩ = some v ∧ v.oneCell' = true := by
  simp only [addCells] at hv
  split at hv
  · split at hv
    · rename_i u hu
      split at hv
      · cases hv; exact ⟨hu, by assumption⟩
      · cases hv
    · cases hv
  · cases hv
theorem addCells_from {c : Nat → Nat → Option Value} {w : World} {gs : Nat → Prop} {b o : Nat} {v : Value} (h : addCells c w gs b o = some v) : c b o = some v ∨ gs b := by
  simp only [addCells] at h
  split at h
  · rename_i u hu; cases h; exact .inl hu
  · split at h
    · right; assumption
    · cases h

/-- the blocks of the call's own -/
def OwnG (m : Mem) (BL : Blks) (b : Nat) : Prop := ∃ id x i, BL[id]? = some (some x) ∧ m.blk id = some i ∧ i.virt = false ∧ i.g = b
noncomputable def lend (m : Mem) (w : World) (BL : Blks) : Mem := ⟨addCells m.cell w (OwnG m BL), m.blk⟩

/-- a slice over a block, all of whose cells are frozen -/
theorem sl_of_own {m m' : Mem} {k : Nat} {w : World} {i : Info} {x : Blk} {lo len : Nat} {v : Value} {rs : List (List PV)} (hat : BlkAt m k w i x) (ho : OwnVal i lo len v) (hle : lo + len ≤ x.rows.length)
    (hlen : rs.length = x.rows.length) (hrow : ∀ r ∈ rs, r.length = x.e)
    (hcell : ∀ cur ty, i.virt = false → w.heap[i.g]? = some (.cells cur ty (0, 0)) → ∀ (r : Nat) (row : List PV) (j : Nat) (q : PV), rs[r]? = some row → row[j]? = some q → ∃ u, cur[r * x.e + j]? = some u ∧ m'.cell i.g (r * x.e + j) = some u ∧ Rep m' 0 q u) :
    Rep m' 0 (.sl false x.e ((rs.drop lo).take len)) v := by
  have hlen2 : ((rs.drop lo).take len).length = len := by simp; omega
  rcases ho with ⟨hz, _, a, rfl⟩ | ⟨hv, cap, rfl, h1, h2, h3⟩
  · have : (rs.drop lo).take len = [] := List.eq_nil_of_length_eq_zero (by omega)
    rw [this]
    exact .slz (by simp [maxLen]) (fun h => by cases h)
  · rcases hat.mem with ⟨hv', _⟩ | ⟨_, cur, ty, m1, m2, m3, m4, m5⟩
    · rw [hv] at hv'; cases hv'
    · have key : ∀ (r : Nat) (row : List PV) (j : Nat) (q : PV), ((rs.drop lo).take len)[r]? = some row → row[j]? = some q → ∃ u, m'.cell i.g (lo * i.e + r * x.e + j) = some u ∧ Rep m' 0 q u := by
        intro r row j q hr hj
        rw [List.getElem?_take] at hr
        split at hr
        · rw [List.getElem?_drop] at hr
          obtain ⟨u, _, g2, g3⟩ := hcell cur ty hv m1 _ row j q hr hj
          refine ⟨u, ?_, g3⟩
          rw [← g2, hat.e, Nat.add_mul]
        · cases hr
      have := Rep.sl (m := m') (k := 0) (ex := false) (e := x.e) (rows := (rs.drop lo).take len) (b := i.g) (off := lo * i.e) (cap := cap) (vals := fun r j => (m'.cell i.g (lo * i.e + r * x.e + j)).getD undef)
        (by omega) (by omega) (fun h => by cases h) (fun r hr => hrow r (List.mem_of_mem_drop (List.mem_of_mem_take hr)))
        (fun r j row q hr hj => by obtain ⟨u, g1, _⟩ := key r row j q hr hj; simp [g1])
        (fun r j row q hr hj => by obtain ⟨u, g1, g2⟩ := key r row j q hr hj; simpa [g1] using g2)
      rw [hlen2] at this
      exact this

/-- what is lent reads the same over the memory in which the own blocks are frozen -/
theorem cls_rep {B k : Nat} {m : Mem} {w : World} {bl BL : Blks} (hf : FrzOk m w) (ho : Owns B m k w BL) (hsub : ∀ (j : Nat) (x : Option Blk), bl[j]? = some x → BL[j]? = some x) :
    ∀ (n : Nat) (p q : PV) (v : Value) (k' : Nat), cls n bl p = some q → Rep m k' p v → Rep (lend m w BL) 0 q v
  | 0, p, q, v, k', h, _ => by simp [cls] at h
  | n + 1, p, q, v, k', h, hr => by
    have old : ∀ b o v, m.cell b o = some v → (lend m w BL).cell b o = some v := fun b o v h => addCells_old h
    simp only [cls] at h
    split at h
    · rename_i hlt
      cases h
      exact (hr.down hlt).re old
    · have lst : ∀ (cs qs : List PV) (vs : Array Value), mapO (cls n bl) cs = some qs → cs.length = vs.size → (∀ (i : Nat) (p : PV), cs[i]? = some p → Rep m k' p (vs.getD i undef)) →
          qs.length = vs.size ∧ ∀ (i : Nat) (p : PV), qs[i]? = some p → Rep (lend m w BL) 0 p (vs.getD i undef) := by
        intro cs qs vs hm hl hh
        obtain ⟨h1, h2⟩ := mapO_spec hm
        refine ⟨h1.trans hl, fun i q hq => ?_⟩
        obtain ⟨a, ha, hfa⟩ := h2 i q hq
        exact cls_rep hf ho hsub n a q _ k' hfa (hh i a ha)
      have cellG : ∀ (b : Nat) (x : Blk) (i : Info), BL[b]? = some (some x) → m.blk b = some i → ∀ cur ty, i.virt = false → w.heap[i.g]? = some (.cells cur ty (0, 0)) → ∀ (t : Nat) (u : Value), cur[t]? = some u → u.oneCell' = true → (lend m w BL).cell i.g t = some u := by
        intro b x i hx hi cur ty hv hg t u hu h1
        refine addCells_new (fun u hu => (hf.1 _ _ _ hu).1) ⟨b, x, i, hx, hi, hv, rfl⟩ ?_ h1
        simpa [World.cell?, hg] using hu
      split at h
      · rename_i b ver lo len _
        split at h
        · rename_i x hgb
          obtain ⟨hbl, hver⟩ := getB_spec hgb
          split at h
          · rename_i hle
            obtain ⟨i, g1, g2, g3, g4, g5⟩ := own_inv hr
            have hat := (ho.at_ b x i (hsub _ _ hbl) g2).blk (getB_ne hgb)
            split at h
            · rename_i rs hrs
              cases h
              cases hfl : x.flat
              · rw [hfl] at hrs
                simp only [Bool.false_eq_true, if_false] at hrs
                obtain ⟨r1, r2⟩ := mapO_spec hrs
                refine sl_of_own hat (g5 (hat.ver.trans hver)) hle r1 (fun r hr => ?_) (fun cur ty hv hg r row j q hrow hj => ?_)
                · obtain ⟨t, ht⟩ := List.getElem?_of_mem hr
                  obtain ⟨a, ha, hfa⟩ := r2 t r ht
                  rw [(mapO_spec hfa).1]
                  exact hat.rowl a (List.mem_of_getElem? ha)
                · obtain ⟨row0, ha, hfa⟩ := r2 r row hrow
                  obtain ⟨q0, hq0, hfq⟩ := (mapO_spec hfa).2 j q hj
                  rcases hat.mem with ⟨hv', _⟩ | ⟨_, cur', ty', m1, m2, m3, m4, m5⟩
                  · rw [hv] at hv'; cases hv'
                  · rw [hg] at m1
                    cases m1
                    obtain ⟨u, hu, h1, hrep⟩ := m5 r row0 j q0 ha hq0
                    exact ⟨u, hu, cellG b x i (hsub _ _ hbl) g2 cur ty hv hg _ u hu h1, cls_rep hf ho hsub n q0 q u _ hfq hrep⟩
              · rw [hfl] at hrs
                simp only [if_true] at hrs
                cases hrs
                refine sl_of_own hat (g5 (hat.ver.trans hver)) hle rfl hat.rowl (fun cur ty hv hg r row j q hrow hj => ?_)
                rcases hat.mem with ⟨hv', _⟩ | ⟨_, cur', ty', m1, m2, m3, m4, m5⟩
                · rw [hv] at hv'; cases hv'
                · rw [hg] at m1
                  cases m1
                  rw [hfl] at m5
                  obtain ⟨u, hu, h1, hrep⟩ := m5 r row j q hrow hj
                  simp only [if_true] at hrep
                  exact ⟨u, hu, cellG b x i (hsub _ _ hbl) g2 cur ty hv hg _ u hu h1, hrep.re old⟩
            · cases h
          · cases h
        · cases h
      · rename_i b ver r off _
        split at h
        · rename_i x hgb
          obtain ⟨hbl, hver⟩ := getB_spec hgb
          split at h
          · rename_i row hrow
            obtain ⟨i, g1, g2, g3, g4, g5⟩ := ptr_inv hr
            have hat := (ho.at_ b x i (hsub _ _ hbl) g2).blk (getB_ne hgb)
            split at h
            · rename_i row' hrow'
              cases h
              rcases hat.mem with ⟨_, h0⟩ | ⟨hv, cur, ty, m1, m2, m3, m4, m5⟩
              · rw [h0] at hrow; simp at hrow
              · rw [g5 (hat.ver.trans hver) hv]
                have key : ∀ (j : Nat) (q : PV), row'[j]? = some q → ∃ u, (lend m w BL).cell i.g (r * i.e + j) = some u ∧ Rep (lend m w BL) 0 q u := by
                  intro j q hj
                  cases hfl : x.flat
                  · rw [hfl] at hrow'
                    simp only [Bool.false_eq_true, if_false] at hrow'
                    obtain ⟨q0, hq0, hfq⟩ := (mapO_spec hrow').2 j q hj
                    obtain ⟨u, hu, h1, hrep⟩ := m5 r row j q0 hrow hq0
                    exact ⟨u, by rw [hat.e]; exact cellG b x i (hsub _ _ hbl) g2 cur ty hv m1 _ u hu h1, cls_rep hf ho hsub n q0 q u _ hfq hrep⟩
                  · rw [hfl] at hrow' m5
                    simp only [if_true] at hrow'
                    cases hrow'
                    obtain ⟨u, hu, h1, hrep⟩ := m5 r row j q hrow hj
                    simp only [if_true] at hrep
                    exact ⟨u, by rw [hat.e]; exact cellG b x i (hsub _ _ hbl) g2 cur ty hv m1 _ u hu h1, hrep.re old⟩
                exact rep_cptr_off key
            · cases h
          · cases h
        · cases h
      · split at h
        · rename_i qs hqs
          cases h
          obtain ⟨vs, rfl, h2, h3⟩ := agg_inv hr
          obtain ⟨l1, l2⟩ := lst _ _ vs hqs h2 h3
          exact .agg l1 l2
        · cases h
      · split at h
        · rename_i qs hqs
          cases h
          obtain ⟨vs, rfl, h2, h3⟩ := tup_inv hr
          obtain ⟨l1, l2⟩ := lst _ _ vs hqs h2 h3
          exact .tup l1 l2
        · cases h
      · split at h
        · rename_i qs hqs
          cases h
          obtain ⟨vs, rfl, h2, h3⟩ := fn_inv hr
          obtain ⟨l1, l2⟩ := lst _ _ vs hqs h2 h3
          exact .fn l1 l2
        · cases h
      · cases h

end Go.Proofs.YtidkdiooempkpaaDoor
/- Calls of functions. -/
namespace Go.Proofs.YtidkdiooempkpaaDoor
open Go Go.RowKit
set_option linter.unusedSectionVars false
variable [Bs]
set_option linter.unusedVariables false
set_option linter.unusedSimpArgs false

def noBlk : Nat → Option Info := fun _ => none

/-- what a call leaves: its result r reads as v; its fresh slices lie in new blocks -/
def RetOk (m : Mem) (w w' : World) (r : PV) (v : Value) : Prop :=
  Below w.heap.size w w' ∧ ∃ (c' : Nat → Nat → Option Value) (infos : List Info),
    (∀ b o u, m.cell b o = some u → c' b o = some u) ∧ (∀ b o u, c' b o = some u → m.cell b o = some u ∨ w.heap.size ≤ b) ∧ FrzOk ⟨c', noBlk⟩ w' ∧
    infos.length = (impB r).length ∧
    (∀ (j : Nat) (x : Blk) (i : Info), (impB r)[j]? = some x → infos[j]? = some i → BlkAt ⟨c', noBlk⟩ 0 w' i x ∧ (i.virt = false → w.heap.size ≤ i.g ∧ ∀ o, c' i.g o = none)) ∧
    (∀ (j : Nat) (i : Info) (j' : Nat) (i' : Info), infos[j]? = some i → infos[j']? = some i' → i.virt = false → i'.virt = false → i.g = i'.g → j = j') ∧
    ∀ K mb, (∀ (j : Nat) (i : Info), infos[j]? = some i → mb (K + j) = some i) → Rep ⟨c', mb⟩ (K + infos.length) (impV K r) v

structure EffIn (B k : Nat) (m : Mem) (w : World) (bl : Blks) : Prop where
  frz : FrzOk m w
  own : Owns B m k w bl
  hB : B ≤ w.heap.size
  fresh : ∀ id, bl.length ≤ id → m.blk id = none

structure EffOut (B k : Nat) (m : Mem) (w : World) (bl : Blks) (bl' : Blks) (p : PV) (v : Value) (m' : Mem) (w' : World) (k' : Nat) : Prop where
  rep : Rep m' k' p v
  le : MLe k m m'
  kk : k ≤ k'
  frz : FrzOk m' w'
  own : Owns B m' k' w' bl'
  bel : Below B w w'
  cel : ∀ b o u, m'.cell b o = some u → m.cell b o = some u ∨ B ≤ b
  len : bl.length ≤ bl'.length
  fresh : ∀ id, bl'.length ≤ id → m'.blk id = none

/-- a call of a function with a body; or of one that the model stands in for, which ends here and now -/
def CallsX (P : Program) (f : Nat) (vs : Array Value) (w : World) (R : Ending → World → Prop) : Prop :=
  ((∃ fn, P.funcs[f]? = some fn ∧ fn.body.isSome = true ∧ fn.name ≠ "runtime.NumGoroutine") ∧ Calls P f vs w R) ∨
  ((∃ fn, P.funcs[f]? = some fn ∧ fn.body.isSome = false) ∧ ∃ v, (callFunc f vs).run P w = .ok (.value v) w ∧ R (.returned v) w)
theorem CallsX.mono {P : Program} {f : Nat} {vs : Array Value} {w : World} {R R' : Ending → World → Prop} (h : CallsX P f vs w R) (hR : ∀ e w', R e w' → R' e w') : CallsX P f vs w R' := by
  rcases h with ⟨h1, h2⟩ | ⟨h1, v, h2, h3⟩
  · exact .inl ⟨h1, h2.mono hR⟩
  · exact .inr ⟨h1, v, h2, hR _ _ h3⟩
def CallOkP (P : Program) (call : Nat → List PV → Option PV) : Prop :=
  ∀ f args r, call f args = some r →
    ∀ (m : Mem) (w : World) (vs : Array Value), args.length = vs.size → (∀ (i : Nat) (p : PV), args[i]? = some p → Rep m 0 p (vs.getD i undef)) → FrzOk m w →
      CallsX P f vs w fun e w' => ∃ v, e = .returned v ∧ RetOk m w w' r v
def CallOkS (P : Program) (s : Nat → List PV → Blks → Option (PV × Blks)) : Prop :=
  ∀ f args bl p bl', s f args bl = some (p, bl') → (∃ fn, P.funcs[f]? = some fn ∧ fn.body.isSome = true ∧ fn.name ≠ "runtime.NumGoroutine") ∧
    ∀ (B k : Nat) (m : Mem) (w : World) (vs : Array Value), args.length = vs.size → (∀ (i : Nat) (p : PV), args[i]? = some p → Rep m k p (vs.getD i undef)) → EffIn B k m w bl →
      Calls P f vs w fun e w' => ∃ v m' k', e = .returned v ∧ EffOut B k m w bl bl' p v m' w' k'
def CallOk (P : Program) (call : Cl) : Prop := CallOkP P call.p ∧ CallOkS P call.s

mutual
/-- a result that speaks of no memory needs none -/
theorem imp_free {c c0 : Nat → Nat → Option Value} {mb : Nat → Option Info} {k : Nat} : ∀ (r : PV) (K : Nat) (v : Value), r.noMem = true → Rep ⟨c, mb⟩ k (impV K r) v → Rep ⟨c0, mb⟩ k (impV K r) v
  | .fr e rows, K, v, _, h => by
    simp only [impV] at h ⊢
    obtain ⟨i, g1, g2, g3, g4, g5⟩ := own_inv h
    exact .own g1 g2 g3 g4 g5
  | .agg cs, K, v, hn, h => by
    simp only [impV] at h ⊢
    obtain ⟨vs, rfl, h2, h3⟩ := agg_inv h
    exact .agg h2 (imp_freeL cs K (fun i => vs.getD i undef) (by simpa [PV.noMem] using hn) h3)
  | .tup cs, K, v, hn, h => by
    simp only [impV] at h ⊢
    obtain ⟨vs, rfl, h2, h3⟩ := tup_inv h
    exact .tup h2 (imp_freeL cs K (fun i => vs.getD i undef) (by simpa [PV.noMem] using hn) h3)
  | .bool b, K, v, hn, h => (h.free (m' := ⟨c0, mb⟩) hn).up (Nat.zero_le _)
  | .int j n, K, v, hn, h => (h.free (m' := ⟨c0, mb⟩) hn).up (Nat.zero_le _)
  | .str s, K, v, hn, h => (h.free (m' := ⟨c0, mb⟩) hn).up (Nat.zero_le _)
  | .v x, K, v, hn, h => (h.free (m' := ⟨c0, mb⟩) hn).up (Nat.zero_le _)
  | .top, K, v, hn, h => (h.free (m' := ⟨c0, mb⟩) hn).up (Nat.zero_le _)
  | .nn, K, v, hn, h => (h.free (m' := ⟨c0, mb⟩) hn).up (Nat.zero_le _)
  | .nilS, K, v, hn, h => (h.free (m' := ⟨c0, mb⟩) hn).up (Nat.zero_le _)
  | .sl _ _ _, K, v, hn, h => (h.free (m' := ⟨c0, mb⟩) hn).up (Nat.zero_le _)
  | .cptr _, K, v, hn, h => by simp [PV.noMem] at hn
  | .own _ _ _ _, K, v, hn, h => by simp [PV.noMem] at hn
  | .ptr _ _ _ _, K, v, hn, h => by simp [PV.noMem] at hn
  | .mp _ _, K, v, hn, h => by simp [PV.noMem] at hn
  | .fn _ _, K, v, hn, h => (h.free (m' := ⟨c0, mb⟩) hn).up (Nat.zero_le _)
theorem imp_freeL {c c0 : Nat → Nat → Option Value} {mb : Nat → Option Info} {k : Nat} : ∀ (cs : List PV) (K : Nat) (f : Nat → Value), PV.noMem.noMemL cs = true →
    (∀ (i : Nat) (p : PV), (impV.impVL K cs)[i]? = some p → Rep ⟨c, mb⟩ k p (f i)) → ∀ (i : Nat) (p : PV), (impV.impVL K cs)[i]? = some p → Rep ⟨c0, mb⟩ k p (f i)
  | [], K, f, _, _, i, p, hp => by simp [impV.impVL] at hp
  | r :: cs, K, f, hn, h, i, p, hp => by
    simp only [PV.noMem.noMemL, Bool.and_eq_true] at hn
    simp only [impV.impVL] at h hp
    cases i with
    | zero => simp at hp; subst hp; exact imp_free r K (f 0) hn.1 (h 0 _ rfl)
    | succ i => exact imp_freeL cs _ (fun i => f (i + 1)) hn.2 (fun i p hp => h (i + 1) p (by simpa using hp)) i p (by simpa using hp)
end

mutual
theorem noMem_rows : ∀ (r : PV), r.noMem = true → ∀ x ∈ impB r, PV.noMem.noMemLL x.rows = true ∧ x.flat = true
  | .fr e rows, h, x, hx => by simp [impB] at hx; subst hx; exact ⟨by simpa [PV.noMem] using h, rfl⟩
  | .agg cs, h, x, hx => noMem_rowsL cs (by simpa [PV.noMem] using h) x (by simpa [impB] using hx)
  | .tup cs, h, x, hx => noMem_rowsL cs (by simpa [PV.noMem] using h) x (by simpa [impB] using hx)
  | .bool _, _, x, hx => by simp [impB] at hx
  | .int _ _, _, x, hx => by simp [impB] at hx
  | .str _, _, x, hx => by simp [impB] at hx
  | .v _, _, x, hx => by simp [impB] at hx
  | .top, _, x, hx => by simp [impB] at hx
  | .nn, _, x, hx => by simp [impB] at hx
  | .nilS, _, x, hx => by simp [impB] at hx
  | .sl _ _ _, _, x, hx => by simp [impB] at hx
  | .cptr _, _, x, hx => by simp [impB] at hx
  | .own _ _ _ _, _, x, hx => by simp [impB] at hx
  | .ptr _ _ _ _, _, x, hx => by simp [impB] at hx
  | .mp _ _, _, x, hx => by simp [impB] at hx
  | .fn _ _, _, x, hx => by simp [impB] at hx
theorem noMem_rowsL : ∀ (l : List PV), PV.noMem.noMemL l = true → ∀ x ∈ impB.impBL l, PV.noMem.noMemLL x.rows = true ∧ x.flat = true
  | [], _, x, hx => by simp [impB.impBL] at hx
  | p :: r, h, x, hx => by
    simp only [PV.noMem.noMemL, Bool.and_eq_true] at h
    simp only [impB.impBL, List.mem_append] at hx
    rcases hx with hx | hx
    · exact noMem_rows p h.1 x hx
    · exact noMem_rowsL r h.2 x hx
end

mutual
theorem imp_flat : ∀ (r : PV), ∀ x ∈ impB r, x.flat = true
  | .fr e rows, x, hx => by simp [impB] at hx; subst hx; rfl
  | .agg cs, x, hx => imp_flatL cs x (by simpa [impB] using hx)
  | .tup cs, x, hx => imp_flatL cs x (by simpa [impB] using hx)
  | .bool _, x, hx => by simp [impB] at hx
  | .int _ _, x, hx => by simp [impB] at hx
  | .str _, x, hx => by simp [impB] at hx
  | .v _, x, hx => by simp [impB] at hx
  | .top, x, hx => by simp [impB] at hx
  | .nn, x, hx => by simp [impB] at hx
  | .nilS, x, hx => by simp [impB] at hx
  | .sl _ _ _, x, hx => by simp [impB] at hx
  | .cptr _, x, hx => by simp [impB] at hx
  | .own _ _ _ _, x, hx => by simp [impB] at hx
  | .ptr _ _ _ _, x, hx => by simp [impB] at hx
  | .mp _ _, x, hx => by simp [impB] at hx
  | .fn _ _, x, hx => by simp [impB] at hx
theorem imp_flatL : ∀ (l : List PV), ∀ x ∈ impB.impBL l, x.flat = true
  | [], x, hx => by simp [impB.impBL] at hx
  | p :: r, x, hx => by
    simp only [impB.impBL, List.mem_append] at hx
    rcases hx with hx | hx
    · exact imp_flat p x hx
    · exact imp_flatL r x hx
end

/-- a result without memory, over less memory -/
theorem RetOk.strip {m m2 : Mem} {w w' : World} {r : PV} {v : Value} (h : RetOk m2 w w' r v) (hm : FrzOk m w) (hn : r.noMem = true) : RetOk m w w' r v := by
  obtain ⟨hb, c', infos, h1, h2, h3, h4, h5, h6, h7⟩ := h
  refine ⟨hb, m.cell, infos, fun _ _ _ h => h, fun _ _ _ h => .inl h, ⟨fun b o u hu => (frz_grow hm hb.block).1 b o u hu, (frz_grow hm hb.block).2⟩, h4, fun j x i hx hi => ?_, h6, fun K mb hmb => imp_free r K v hn (h7 K mb hmb)⟩
  obtain ⟨g1, g2⟩ := h5 j x i hx hi
  obtain ⟨n1, n2⟩ := noMem_rows r hn x (List.mem_of_getElem? hx)
  refine ⟨⟨g1.ver, g1.e, g1.n, g1.rowl, ?_, g1.ne⟩, fun hv => ⟨(g2 hv).1, fun o => frz_none hm o (g2 hv).1⟩⟩
  rcases g1.mem with hv | ⟨hv, cur, ty, a1, a2, a3, a4, a5⟩
  · exact .inl hv
  · refine .inr ⟨hv, cur, ty, a1, a2, a3, a4, fun rr row j p hr hp => ?_⟩
    obtain ⟨u, e1, e2, e3⟩ := a5 rr row j p hr hp
    refine ⟨u, e1, e2, ?_⟩
    have hnm := noMemL_all (noMemLL_all n1 row (List.mem_of_getElem? hr)) j p hp
    exact (e3.free hnm).up (Nat.zero_le _)

/-- the fresh slices of a result become blocks of the call's own -/
theorem PurOut.import {B k : Nat} {m : Mem} {w w' : World} {bl BL : Blks} {r : PV} {v : Value} (hin : PurIn B k m w bl (impB r) BL) (h : RetOk m w w' r v) :
    ∃ m', PurOut B k m w bl.length (impB r).length BL (impV bl.length r) v m' w' (k + bl.length + (impB r).length) := by
  obtain ⟨hb, c', infos, h1, h2, h3, h4, h5, h6, h7⟩ := h
  let mb : Nat → Option Info := fun id => if bl.length ≤ id ∧ id < bl.length + infos.length then infos[id - bl.length]? else m.blk id
  have hmb : ∀ (j : Nat) (i : Info), infos[j]? = some i → mb (bl.length + j) = some i := fun j i hi => by
    have hlt := (List.getElem?_eq_some_iff.1 hi).1
    simp only [mb]
    rw [if_pos (by omega), Nat.add_sub_cancel_left]; exact hi
  have hk : Keeps k m ⟨c', mb⟩ := ⟨h1, fun b i hi => by
    by_cases hc : bl.length ≤ b ∧ b < bl.length + infos.length
    · have := hin.fresh (b - bl.length) (by omega)
      rw [show bl.length + (b - bl.length) = b by omega, hi] at this
      cases this
    · simp only [mb]; rw [if_neg hc]; exact hi⟩
  refine ⟨⟨c', mb⟩, (h7 _ mb hmb).up (by omega), hk, by omega, ⟨fun b o u hu => h3.1 b o u hu, h3.2⟩, ?_, hb, h2, fun id => ?_, fun j hj => ?_⟩
  · refine hin.own.ext hk (by omega) hin.hB hb.block h2 (fun id x i hx hi => ?_)
    by_cases hc : bl.length ≤ id ∧ id < bl.length + infos.length
    · right
      simp only [mb] at hi
      rw [if_pos hc] at hi
      have hxs : ∃ y, (impB r)[id - bl.length]? = some y := ⟨_, List.getElem?_eq_getElem (by omega)⟩
      obtain ⟨y, hy⟩ := hxs
      have hyx : y = x := by
        have := hin.sub id (some y) (by
          rw [List.getElem?_append_right hc.1, List.getElem?_map, hy]; rfl)
        rw [hx] at this
        simpa using this.symm
      subst hyx
      obtain ⟨g1, g2⟩ := h5 _ y i hy hi
      refine ⟨.inl <| g1.mono ⟨fun _ _ _ h => h, fun b j hb => absurd hb (by omega)⟩ (Nat.zero_le _) (fun _ => rfl), fun hv => ⟨(g2 hv).1, (g2 hv).2, fun id' x' i' hx' hi' hn hv' hg => ?_⟩⟩
      by_cases hc' : bl.length ≤ id' ∧ id' < bl.length + infos.length
      · simp only [mb] at hi'
        rw [if_pos hc'] at hi'
        have := h6 _ i' _ i hi' hi hv' hv hg
        omega
      · simp only [mb] at hi'
        rw [if_neg hc', hn] at hi'
        cases hi'
    · left
      simp only [mb] at hi
      rwa [if_neg hc] at hi
  · by_cases hc : bl.length ≤ id ∧ id < bl.length + infos.length
    · right; omega
    · left; simp only [mb]; rw [if_neg hc]
  · have hlt : j < infos.length := by omega
    show mb (bl.length + j) ≠ none
    rw [hmb j _ (List.getElem?_eq_getElem hlt)]
    simp

mutual
theorem unfr_rep {c c2 : Nat → Nat → Option Value} {mb mb2 : Nat → Option Info} {w' : World} {k : Nat} (hc : ∀ b o u, c b o = some u → c2 b o = some u) :
    ∀ (r : PV) (K : Nat) (v : Value), (unfr r).lt 0 = true → (∀ (j : Nat) (x : Blk), (impB r)[j]? = some x → ∃ i, mb (K + j) = some i ∧ BlkAt ⟨c, noBlk⟩ 0 w' i x ∧ (i.virt = false → ∀ o u, w'.cell? ⟨i.g, o, none⟩ = some u → u.oneCell' = true → c2 i.g o = some u)) →
      Rep ⟨c, mb⟩ k (impV K r) v → Rep ⟨c2, mb2⟩ 0 (unfr r) v
  | .fr e rows, K, v, _, hb, h => by
    simp only [impV, unfr] at h ⊢
    obtain ⟨i, hi, hat, hcell⟩ := hb 0 _ rfl
    obtain ⟨i', g1, g2, g3, g4, g5⟩ := own_inv h
    have : mb K = some i := by simpa using hi
    simp only at g2
    rw [this] at g2
    cases g2
    have hs := sl_of_own (m' := ⟨c2, mb2⟩) hat (g5 (by rw [hat.ver])) (by simp) rfl hat.rowl (fun cur ty hv hg rr row j q hr hj => by
      rcases hat.mem with ⟨hv', _⟩ | ⟨_, cur', ty', m1, m2, m3, m4, m5⟩
      · rw [hv] at hv'; cases hv'
      · rw [hg] at m1
        cases m1
        obtain ⟨u, hu, h1, hrep⟩ := m5 rr row j q hr hj
        refine ⟨u, hu, hcell hv _ u (by simpa [World.cell?, hg] using hu) h1, ?_⟩
        simp only [if_true] at hrep
        exact hrep.re hc)
    simpa using hs
  | .agg cs, K, v, hl, hb, h => by
    simp only [impV, unfr] at h ⊢
    obtain ⟨vs, rfl, h2, h3⟩ := agg_inv h
    have := unfr_repL (mb2 := mb2) hc cs K (fun i => vs.getD i undef) (by simpa [unfr, PV.lt] using hl) (by simpa [impB] using hb) h3
    exact .agg (by rw [this.1, ← h2]; exact this.2.1) this.2.2
  | .tup cs, K, v, hl, hb, h => by
    simp only [impV, unfr] at h ⊢
    obtain ⟨vs, rfl, h2, h3⟩ := tup_inv h
    have := unfr_repL (mb2 := mb2) hc cs K (fun i => vs.getD i undef) (by simpa [unfr, PV.lt] using hl) (by simpa [impB] using hb) h3
    exact .tup (by rw [this.1, ← h2]; exact this.2.1) this.2.2
  | .bool b, K, v, hl, hb, h => (h.down hl).re hc
  | .int j n, K, v, hl, hb, h => (h.down hl).re hc
  | .str s, K, v, hl, hb, h => (h.down hl).re hc
  | .v x, K, v, hl, hb, h => (h.down hl).re hc
  | .top, K, v, hl, hb, h => (h.down hl).re hc
  | .nn, K, v, hl, hb, h => (h.down hl).re hc
  | .nilS, K, v, hl, hb, h => (h.down hl).re hc
  | .sl _ _ _, K, v, hl, hb, h => (h.down hl).re hc
  | .cptr _, K, v, hl, hb, h => (h.down hl).re hc
  | .own _ _ _ _, K, v, hl, hb, h => (h.down hl).re hc
  | .ptr _ _ _ _, K, v, hl, hb, h => (h.down hl).re hc
  | .mp _ _, K, v, hl, hb, h => (h.down hl).re hc
  | .fn _ _, K, v, hl, hb, h => (h.down hl).re hc
theorem unfr_repL {c c2 : Nat → Nat → Option Value} {mb mb2 : Nat → Option Info} {w' : World} {k : Nat} (hc : ∀ b o u, c b o = some u → c2 b o = some u) :
    ∀ (cs : List PV) (K : Nat) (f : Nat → Value), PV.lt.ltL 0 (unfr.unfrL cs) = true → (∀ (j : Nat) (x : Blk), (impB.impBL cs)[j]? = some x → ∃ i, mb (K + j) = some i ∧ BlkAt ⟨c, noBlk⟩ 0 w' i x ∧ (i.virt = false → ∀ o u, w'.cell? ⟨i.g, o, none⟩ = some u → u.oneCell' = true → c2 i.g o = some u)) →
      (∀ (i : Nat) (p : PV), (impV.impVL K cs)[i]? = some p → Rep ⟨c, mb⟩ k p (f i)) → (unfr.unfrL cs).length = cs.length ∧ cs.length = (impV.impVL K cs).length ∧ ∀ (i : Nat) (p : PV), (unfr.unfrL cs)[i]? = some p → Rep ⟨c2, mb2⟩ 0 p (f i)
  | [], K, f, _, _, _ => ⟨rfl, rfl, fun i p hp => by simp [unfr.unfrL] at hp⟩
  | r :: cs, K, f, hl, hb, h => by
    simp only [unfr.unfrL, PV.lt.ltL, Bool.and_eq_true] at hl
    simp only [impV.impVL] at h
    simp only [impB.impBL] at hb
    have h1 := unfr_rep (mb2 := mb2) hc r K (f 0) hl.1 (fun j x hx => hb j x (by rw [List.getElem?_append_left (List.getElem?_eq_some_iff.1 hx).1]; exact hx)) (h 0 _ rfl)
    have h2 := unfr_repL (mb2 := mb2) hc cs (K + (impB r).length) (fun i => f (i + 1)) hl.2 (fun j x hx => by
      have := hb ((impB r).length + j) x (by rw [List.getElem?_append_right (by omega), Nat.add_sub_cancel_left]; exact hx)
      rw [← Nat.add_assoc] at this
      exact this) (fun i p hp => h (i + 1) p (by simpa using hp))
    refine ⟨by simp [unfr.unfrL, h2.1], by simp [impV.impVL, h2.2.1], fun i p hp => ?_⟩
    simp only [unfr.unfrL] at hp
    cases i with
    | zero => simp at hp; subst hp; exact h1
    | succ i => exact h2.2.2 i p (by simpa using hp)
end

/-- the fresh slices of a result are never written -/
theorem PurOut.unfr {B k : Nat} {m : Mem} {w w' : World} {bl BL : Blks} {r : PV} {v : Value} (hin : PurIn B k m w bl [] BL) (h : RetOk m w w' r v) (hlt : (unfr r).lt 0 = true) :
    ∃ m', PurOut B k m w bl.length 0 BL (unfr r) v m' w' k := by
  obtain ⟨hb, c', infos, h1, h2, h3, h4, h5, h6, h7⟩ := h
  let G : Nat → Prop := fun b => ∃ (j : Nat) (i : Info), infos[j]? = some i ∧ i.virt = false ∧ i.g = b
  have hcel : ∀ b o u, addCells c' w' G b o = some u → m.cell b o = some u ∨ w.heap.size ≤ b := fun b o u hu => by
    rcases addCells_from hu with hu | ⟨j, i, hi, hv, rfl⟩
    · exact h2 b o u hu
    · have hlt : j < (impB r).length := by rw [← h4]; exact (List.getElem?_eq_some_iff.1 hi).1
      exact .inr ((h5 j _ i (List.getElem?_eq_getElem hlt) hi).2 hv).1
  have hk : Keeps k m ⟨addCells c' w' G, m.blk⟩ := ⟨fun b o u hu => addCells_old (h1 b o u hu), fun _ _ h => h⟩
  have hrep := h7 0 (fun j => infos[j]?) (fun j i hi => by simpa using hi)
  refine ⟨⟨addCells c' w' G, m.blk⟩, (unfr_rep (c := c') (c2 := addCells c' w' G) (mb2 := m.blk) (w' := w') (fun b o u hu => addCells_old hu) r 0 v hlt (fun j x hx => ?_) hrep).up (Nat.zero_le _), hk, Nat.le_refl _, addCells_frz h3 _, ?_, hb, hcel, fun id => .inl rfl, fun j hj => absurd hj (by omega)⟩
  · have hlt : j < infos.length := by rw [h4]; exact (List.getElem?_eq_some_iff.1 hx).1
    have hi := List.getElem?_eq_getElem hlt
    obtain ⟨g1, g2⟩ := h5 j x _ hx hi
    exact ⟨infos[j], by simp [hi], g1, fun hv o u hu h1 => addCells_new (fun u hu => (h3.1 _ _ u hu).1) ⟨j, _, hi, hv, rfl⟩ hu h1⟩
  · exact hin.own.ext hk (Nat.le_refl _) hin.hB hb.block hcel (fun id x i hx hi => .inl hi)

end Go.Proofs.YtidkdiooempkpaaDoor
/- Maps: made, and read. -/
namespace Go.Proofs.YtidkdiooempkpaaDoor
open Go Go.RowKit
set_option linter.unusedSectionVars false
variable [Bs]
set_option linter.unusedVariables false
set_option linter.unusedSimpArgs false

section
variable {P : Program} {call : Cl} {own : List Nat} {o : Oper}

theorem pur_mkmap {t : TypeId} {r : Option Operand} (h : o.op = .makeMap t r) : PurSound P call own o := by
  intro ao B k m w sl bl BL a p ns next Q hd he hl hin hn
  simp only [digOp, h] at hd
  split at hd
  · rename_i K E r' hu hr
    cases hd
    have main : p = .mp bl.length 0 → ns = [⟨0, mapE, true, []⟩] → (Instr.makeMap t (r.map a.eval)).run P w = .ok (.map (some w.heap.size)) (w.alloc (.map #[] 0)) → o.wp P a w next Q := by
      rintro rfl rfl hrun
      obtain ⟨h1, h3⟩ := hin.one
      refine wp_of_run (by simp only [execOp, h]; exact run_value hrun) (hn _ _ _ _ (PurOut.newA ⟨w.heap.size, 0, mapE, 0, 0, false⟩ hin.frz hin.own hin.hB h1 h3 ((Below.refl _ _).alloc (Nat.le_refl _) _) (.inr (.inl ⟨rfl, rfl, rfl, #[], 0, heap_alloc_new w _, ⟨rfl, fun r row hr => by simp at hr⟩, ⟨fun e he => by simp at he, by simp⟩⟩)) (fun _ => Nat.le_refl _) ?_))
      exact .mp (by omega) (Mem.addBlk_same _ _ _) (Nat.le_refl _) rfl (fun _ => rfl)
    cases r with
    | none =>
      simp [digM] at hr
      subst hr
      simp only [evPur] at he
      cases he
      exact main rfl rfl (run_makeMap t w)
    | some x =>
      simp only [digM] at hr
      split at hr
      · rename_i ax hx
        cases hr
        simp only [evPur] at he
        split at he
        · rename_i j n hv
          cases he
          have rx := opd (a := a) (m := m) (k := k) (sl := sl) hx (fun t ht => hl t (by simp [h, Op.operands, ht]))
          rw [hv] at rx
          refine main rfl rfl ?_
          rw [Option.map_some, int_inv rx]
          simp [Instr.makeMap, run_underlying hu, asInt, asIntOf, Result.andThen]
        · cases he
      · cases hr
  · cases hd

theorem mp_inv {m : Mem} {k b ver : Nat} {v : Value} (h : Rep m k (.mp b ver) v) : ∃ i, b < k ∧ m.blk b = some i ∧ ver ≤ i.ver ∧ v.oneCell' = true ∧ (i.ver = ver → v = .map (some i.g)) := by
  generalize hp : PV.mp b ver = p at h
  cases h <;> cases hp
  exact ⟨_, by assumption, by assumption, by assumption, by assumption, by assumption⟩
theorem v_inv' {m : Mem} {k : Nat} {x v : Value} (h : Rep m k (.v x) v) : v = x := by cases h; rfl

/-- a type's zero value -/
theorem zeroS_spec {E : TypeId} {zp : PV} (h : zeroS P E = some zp) : ∃ i zv, P.info? E = some i ∧ i.zero = some zv ∧ ∀ m k, Rep m k zp zv := by
  unfold zeroS at h
  split at h
  · rename_i i hi
    split at h
    · rename_i cs hz
      cases h
      refine ⟨i, _, hi, hz, fun m k => .agg (by simp) (fun j p hp => ?_)⟩
      rw [List.getElem?_map] at hp
      cases hc : cs.toList[j]? with
      | none => rw [hc] at hp; cases hp
      | some v =>
        rw [hc] at hp
        cases hp
        have : cs.getD j undef = v := by
          rw [Array.getD_eq_getD_getElem?]
          have : cs[j]? = some v := by simpa using hc
          rw [this]; rfl
        rw [this]
        exact (rep_ofVal m v).up (Nat.zero_le _)
    · rename_i v _ hz
      cases h
      exact ⟨i, v, hi, hz, fun m k => (rep_ofVal m v).up (Nat.zero_le _)⟩
    · cases h
  · cases h

theorem keyC_scal {ag : Bool} {p : PV} {kc : List PV} (h : keyC ag p = some kc) : scal ag kc = some p := by
  cases p <;> cases ag <;> simp [keyC] at h <;> subst h <;> simp [scal]

/-- kinds that fit -/
theorem eq1_key {m : Mem} {k : Nat} {t : TypeId} {c : KK} {p q : PV} {u : Value} {b : Bool} (hc : (c = .b ∧ P.underlying t = some .bool) ∨ (c = .i ∧ ∃ k, P.underlying t = some (.int k)) ∨ (c = .s ∧ P.underlying t = some .string)) (hp : Rep m k p u) (h : eq1 c p q = some b) :
    (P.underlying t = some .bool ∧ ∃ x, u = .bool x) ∨ (∃ k1 k2 n, P.underlying t = some (.int k1) ∧ u = .int k2 n) ∨ (P.underlying t = some .string ∧ ∃ s, u = .string s) := by
  rcases hc with ⟨rfl, hu⟩ | ⟨rfl, k1, hu⟩ | ⟨rfl, hu⟩
  · cases p <;> cases q <;> simp [eq1] at h
    exact .inl ⟨hu, _, bool_inv hp⟩
  · cases p <;> cases q <;> simp [eq1] at h
    exact .inr (.inl ⟨_, _, _, hu, int_inv hp⟩)
  · cases p <;> cases q <;> simp [eq1] at h
    obtain ⟨s1, rfl, e1⟩ := str_inv hp
    exact .inr (.inr ⟨hu, _, rfl⟩)

theorem check_leaf {m : Mem} {k : Nat} {w : World} {t : TypeId} {c : KK} {p q : PV} {u : Value} {b : Bool} (hc : (c = .b ∧ P.underlying t = some .bool) ∨ (c = .i ∧ ∃ k, P.underlying t = some (.int k)) ∨ (c = .s ∧ P.underlying t = some .string)) (hp : Rep m k p u) (h : eq1 c p q = some b) (em : Bool) (D : Nat) :
    (Instr.checkKey em (D + 1) t u).run P w = .ok () w := by
  unfold Instr.checkKey
  rcases eq1_key hc hp h with ⟨hu, x, rfl⟩ | ⟨k1, k2, n, hu, rfl⟩ | ⟨hu, s, rfl⟩ <;> simp [run_underlying hu]

theorem forIn_ok {α : Type} {w : World} (f : α → PUnit → Sem (ForInStep PUnit)) : ∀ (l : List α), (∀ x ∈ l, (f x ⟨⟩).run P w = .ok (.yield ⟨⟩) w) → (forIn l PUnit.unit f).run P w = .ok ⟨⟩ w
  | [], _ => by simp
  | x :: l, h => by
    rw [List.forIn_cons]
    simp only [Sem.run_bind, h x (by simp), Result.andThen_ok]
    exact forIn_ok f l (fun y hy => h y (by simp [hy]))

theorem andThen_unit {r : Result PUnit} {w : World} (h : r = .ok ⟨⟩ w) : (r.andThen fun a w' => Sem.run P (pure ()) w') = .ok () w := by rw [h]; rfl

theorem eqL_self_split : ∀ {l rs : List KK} {ps : List PV}, eqL (l ++ rs) ps ps = some true → eqL l (ps.take l.length) (ps.take l.length) = some true ∧ eqL rs (ps.drop l.length) (ps.drop l.length) = some true := fun {l rs ps} h => by
  obtain ⟨b1, b2, h1, h2, h3⟩ := eqL_app h
  cases b1 <;> cases b2 <;> simp at h3
  exact ⟨h1, h2⟩

/-- a key that can be compared with itself is one -/
theorem check_run : ∀ (d : Nat) (t : TypeId) (ks : List KK), flatT P d t = some ks → ∀ (D : Nat), d ≤ D → ∀ {m : Mem} {k : Nat} {w : World} {g : Bool} {ps : List PV} {p : PV} {u : Value} (em : Bool), aggB P t = some g → scal g ps = some p →
    Rep m k p u → eqL ks ps ps = some true → (Instr.checkKey em D t u).run P w = .ok () w
  | 0, t, ks, h, D, hD, m, k, w, g, ps, p, u, em, hg, h1, h3, h5 => by simp [flatT] at h
  | d + 1, t, ks, h, D, hD, m, k, w, g, ps, p, u, em, hg, h1, h3, h5 => by
    obtain ⟨D, rfl⟩ : ∃ D', D = D' + 1 := ⟨D - 1, by omega⟩
    have ih := check_run d
    obtain ⟨g', hg', hleaf⟩ := flatT_agg h
    rw [hg] at hg'
    cases hg'
    cases g with
    | false =>
      obtain ⟨c, rfl, hc⟩ := hleaf rfl
      obtain ⟨l1, l2⟩ := eqL_len h5
      match ps, l1 with
      | [p0], _ =>
        simp [scal] at h1
        subst h1
        simp only [eqL] at h5
        split at h5
        · rename_i x y hx hy
          exact check_leaf hc h3 hx em D
        · cases h5
    | true =>
      simp [scal] at h1
      subst h1
      obtain ⟨xs, rfl, x1, x2⟩ := agg_inv h3
      clear hleaf h3
      have part1 : ∀ (e : TypeId) (l : List KK) (i : TypeInfo) (off : Nat), flatT P d e = some l → P.info? e = some i → i.size = l.length → eqL l ((ps.drop off).take l.length) ((ps.drop off).take l.length) = some true → off + l.length ≤ ps.length →
          ∃ a, (part e xs off).run P w = .ok a w ∧ (Instr.checkKey em D e a).run P w = .ok () w := by
        intro e l i off hl hi hs hb ho1
        obtain ⟨ge, hge, hgl⟩ := flatT_agg hl
        have h1' : ge = true ∨ i.size = 1 := by
          cases ge
          · obtain ⟨c, rfl, _⟩ := hgl rfl
            exact .inr hs
          · exact .inl rfl
        obtain ⟨z1, s1⟩ : ∃ z, scal ge ((ps.drop off).take i.size) = some z := by
          cases ge
          · obtain ⟨c, rfl, _⟩ := hgl rfl
            simp only [List.length_cons, List.length_nil] at hs ho1
            rw [hs, List.drop_eq_getElem_cons (by omega)]
            exact ⟨_, rfl⟩
          · exact ⟨_, rfl⟩
        obtain ⟨a, r1, r2⟩ := run_part (P := P) (w := w) hge hi h1' x1 x2 (by omega) s1
        rw [hs] at s1
        exact ⟨a, r1, ih e l hl D (by omega) em hge s1 r2 hb⟩
      simp only [flatT] at h
      split at h
      · rename_i hu; simp [aggB, hu] at hg
      · rename_i hu; simp [aggB, hu] at hg
      · rename_i hu; simp [aggB, hu] at hg
      · rename_i n e hu
        split at h
        · rename_i l i hl hi
          split at h
          · rename_i hs
            cases h
            have hsz : (sizeOf e).run P w = .ok l.length w := by simp [sizeOf, typeInfo, hi, hs]
            obtain ⟨L1, L2⟩ := eqL_len h5
            have piece : ∀ (r s : Nat), s + r = n → eqL (List.replicate r l).flatten (ps.drop (s * l.length)) (ps.drop (s * l.length)) = some true → ∀ j, s ≤ j → j < n → eqL l ((ps.drop (j * l.length)).take l.length) ((ps.drop (j * l.length)).take l.length) = some true := by
              intro r
              induction r with
              | zero => intro s hs hb j h1 h2; omega
              | succ r ihr =>
                intro s hs hb j h1 h2
                rw [List.replicate_succ, List.flatten_cons] at hb
                obtain ⟨e1, e2⟩ := eqL_self_split hb
                by_cases hj : j = s
                · subst hj; exact e1
                · refine ihr (s + 1) (by omega) ?_ j (by omega) h2
                  rw [List.drop_drop] at e2
                  rw [show (s + 1) * l.length = s * l.length + l.length by rw [Nat.succ_mul]]
                  exact e2
            have pc := piece n 0 (by omega) (by simpa using h5)
            have hbig : ∀ j, j < n → j * l.length + l.length ≤ ps.length := by
              intro j hj
              have e1 := (eqL_len (pc j (by omega) hj)).1
              simp only [List.length_take, List.length_drop] at e1
              rcases Nat.eq_zero_or_pos l.length with h0 | h0
              · rw [h0]; simp
              · omega
            unfold Instr.checkKey
            simp only [Sem.run_bind, run_underlying hu, Result.andThen_ok]
            simp only [Std.Legacy.Range.forIn_eq_forIn_range', Std.Legacy.Range.size, Nat.sub_zero, Nat.add_one_sub_one, Nat.div_one]
            refine andThen_unit (forIn_ok (P := P) (w := w) _ _ (fun j hj => ?_))
            have hj : j < n := by simpa using hj
            obtain ⟨a, r1, r2⟩ := part1 e l i (j * l.length) hl hi hs (pc j (by omega) hj) (hbig j hj)
            simp [hsz, r1, r2]
          · cases h
        · cases h
      · rename_i fs hu
        split at h
        · cases h
        · have key : ∀ (fl : List Field) (off : Nat) (ks : List KK), flatF P (flatT P d) fl off = some ks → eqL ks (ps.drop off) (ps.drop off) = some true →
              ∀ f ∈ fl, f.name ≠ "_" → ∃ a, (part f.type xs f.offset).run P w = .ok a w ∧ (Instr.checkKey em D f.type a).run P w = .ok () w := by
            intro fl
            induction fl with
            | nil => intro off ks hk hb f hf; simp at hf
            | cons f fl ihf =>
              intro off ks hk hb f' hf' hn'
              simp only [flatF] at hk
              split at hk
              · rename_i hn
                split at hk
                · rename_i l i hl hi
                  split at hk
                  · rename_i hs
                    split at hk
                    · rename_i rs hrs
                      cases hk
                      obtain ⟨e1, e2⟩ := eqL_self_split hb
                      have c1 := (eqL_len e1).1
                      simp only [List.length_take, List.length_drop] at c1
                      obtain ⟨hn1, hn2⟩ := hn
                      subst hn2
                      rcases List.mem_cons.1 hf' with rfl | hf'
                      · exact part1 f'.type l i f'.offset hl hi hs.1 e1 (by omega)
                      · exact ihf (f.offset + l.length) rs hrs (by rw [List.drop_drop] at e2; exact e2) f' hf' hn'
                    · cases hk
                  · cases hk
                · cases hk
              · cases hk
          have hk := key fs.toList 0 ks h (by simpa using h5)
          unfold Instr.checkKey
          simp only [Sem.run_bind, run_underlying hu, Result.andThen_ok]
          rw [← Array.forIn_toList]
          refine andThen_unit (forIn_ok (P := P) (w := w) _ _ (fun f hf => ?_))
          by_cases hn : f.name ≠ "_"
          · obtain ⟨a, r1, r2⟩ := hk f hf hn
            simp [hn, r1, r2]
          · simp [hn]
      · cases h

/-- entries as rows tell them -/
def EntR (m : Mem) (k : Nat) (rows : List (List PV)) (es : List MapEntry) : Prop :=
  es.length = rows.length ∧ ∀ (r : Nat) (row : List PV), rows[r]? = some row → ∃ kp vp e, row = [kp, vp] ∧ es[r]? = some e ∧ Rep m k kp e.key ∧ Rep m k vp e.val

theorem EntR.cons {m : Mem} {k : Nat} {row : List PV} {rows : List (List PV)} {e : MapEntry} {es : List MapEntry} (h : EntR m k (row :: rows) (e :: es)) :
    (∃ kp vp, row = [kp, vp] ∧ Rep m k kp e.key ∧ Rep m k vp e.val) ∧ EntR m k rows es := by
  refine ⟨?_, by simpa using h.1, fun r row' hr => ?_⟩
  · obtain ⟨kp, vp, e', h1, h2, h3, h4⟩ := h.2 0 row rfl
    simp at h2; subst h2
    exact ⟨kp, vp, h1, h3, h4⟩
  · obtain ⟨kp, vp, e', h1, h2, h3, h4⟩ := h.2 (r + 1) row' (by simpa using hr)
    exact ⟨kp, vp, e', h1, by simpa using h2, h3, h4⟩

/-- what a search finds -/
def Found (m : Mem) (k : Nat) (ks : List KK) (ag : Bool) (kc : List PV) (es : List MapEntry) (i0 : Nat) : Option (Nat × PV) → Option (Nat × Value) → Prop
  | none, none => True
  | some (i, vp), some (j, v) => i = j ∧ i0 ≤ i ∧ ∃ e kp cs, es[i - i0]? = some e ∧ e.val = v ∧ Rep m k vp v ∧ Rep m k kp e.key ∧ keyC ag kp = some cs ∧ eqL ks kc cs = some true
  | _, _ => False

theorem Found.shift {m : Mem} {k : Nat} {ks : List KK} {ag : Bool} {kc : List PV} {e : MapEntry} {es : List MapEntry} {i0 : Nat} : ∀ {r : Option (Nat × PV)} {r' : Option (Nat × Value)}, Found m k ks ag kc es (i0 + 1) r r' → Found m k ks ag kc (e :: es) i0 r r'
  | none, none, _ => trivial
  | some (i, vp), some (j, v), ⟨h1, h2, e', kp, cs, h3, h4⟩ => ⟨h1, by omega, e', kp, cs, by rw [show i - i0 = (i - (i0 + 1)) + 1 by omega]; simpa using h3, h4⟩
  | none, some _, h => h.elim
  | some _, none, h => h.elim

theorem sameNow_run {m : Mem} {k k' : Nat} {t : TypeId} {c : KK} {p q : PV} {u v : Value} {b : Bool} {d : TypeDesc} (hd : P.underlying t = some d) (hc : (c = .b ∧ P.underlying t = some .bool) ∨ (c = .i ∧ ∃ k, P.underlying t = some (.int k)) ∨ (c = .s ∧ P.underlying t = some .string))
    (hp : Rep m k p u) (hq : Rep m k' q v) (h : eq1 c p q = some b) : Instr.sameNow d u v = some b := by
  rcases hc with ⟨rfl, hu⟩ | ⟨rfl, k1, hu⟩ | ⟨rfl, hu⟩ <;> rw [hd] at hu <;> cases hu
  · cases p <;> cases q <;> simp [eq1] at h
    rw [bool_inv hp, bool_inv hq]
    simp [Instr.sameNow, ← h]
  · cases p <;> cases q <;> simp [eq1] at h
    obtain ⟨rfl, h⟩ := h
    rw [int_inv hp, int_inv hq]
    simp [Instr.sameNow, ← h]
  · cases p <;> cases q <;> simp [eq1] at h
    obtain ⟨s1, rfl, e1⟩ := str_inv hp
    obtain ⟨s2, rfl, e2⟩ := str_inv hq
    simp only [Instr.sameNow]
    rw [beq_toListBytes, bytes_toList, bytes_toList, e1, e2, ← h]

theorem scal_one {ks : List KK} {c : KK} {kc cs : List PV} {b : Bool} (h : ks = [c]) (hb : eqL ks kc cs = some b) : ∃ p q, kc = [p] ∧ cs = [q] ∧ eq1 c p q = some b := by
  subst h
  obtain ⟨l1, l2⟩ := eqL_len hb
  match kc, cs, l1, l2 with
  | [p0], [q0], _, _ =>
    simp only [eqL] at hb
    split at hb
    · rename_i x y hx hy
      cases hb
      cases hy
      exact ⟨p0, q0, rfl, rfl, by simpa using hx⟩
    · cases hb

/-- A KEY IS FOUND WHERE THE PURE READING FINDS IT -/
theorem find_run {K : TypeId} {ks : List KK} {ag : Bool} (hks : flatT P 8 K = some ks) (hag : aggB P K = some ag) {m : Mem} {k k' : Nat} {w : World} {p : PV} {u : Value} {kc : List PV} (hp : Rep m k' p u) (hkc : keyC ag p = some kc) :
    ∀ (rows : List (List PV)) (es : List MapEntry) (i : Nat) (r : Option (Nat × PV)), EntR m k rows es → mfind ks ag kc rows i = some r →
      ∃ r', (if ag = true then (Instr.findAsking K u es i).run P w = .ok r' w else ∀ d, P.underlying K = some d → Instr.findNow d u es i = some r') ∧ Found m k ks ag kc es i r r' := by
  obtain ⟨g', hg', hleaf⟩ := flatT_agg hks
  rw [hag] at hg'
  cases hg'
  intro rows
  induction rows with
  | nil =>
    intro es i r he hm
    have : es = [] := List.length_eq_zero_iff.1 (by simpa using he.1)
    subst this
    simp [mfind] at hm
    subst hm
    refine ⟨none, ?_, trivial⟩
    split
    · simp [Instr.findAsking]
    · intro d _; rfl
  | cons row rows ih =>
    intro es i r he hm
    obtain ⟨e, es', rfl⟩ : ∃ e es', es = e :: es' := by
      cases es with
      | nil => have := he.1; simp at this
      | cons e es' => exact ⟨e, es', rfl⟩
    obtain ⟨⟨kp, vp, rfl, r1, r2⟩, he'⟩ := he.cons
    simp only [mfind] at hm
    split at hm
    · rename_i cs hcs
      -- one comparison
      have cmp : ∀ b, eqL ks kc cs = some b → (if ag = true then (Op.equal K u e.key).run P w = .ok b w else ∀ d, P.underlying K = some d → Instr.sameNow d u e.key = some b) := by
        intro b hb
        cases ag with
        | true =>
          simp only [if_true]
          exact eq_run 8 K ks hks 10000 (by omega) hag (keyC_scal hkc) (keyC_scal hcs) (hp.up (Nat.le_max_left k' k)) (r1.up (Nat.le_max_right k' k)) hb
        | false =>
          simp only [Bool.false_eq_true, if_false]
          intro d hd
          obtain ⟨c, hc1, hc⟩ := hleaf rfl
          obtain ⟨x, y, rfl, rfl, hxy⟩ := scal_one hc1 hb
          have s1 := keyC_scal hkc
          have s2 := keyC_scal hcs
          simp [scal] at s1 s2
          subst s1 s2
          exact sameNow_run hd hc hp r1 hxy
      split at hm
      · rename_i hb
        cases hm
        have := cmp true hb
        refine ⟨some (i, e.val), ?_, rfl, Nat.le_refl _, e, kp, cs, by simp, rfl, r2, r1, hcs, hb⟩
        split
        · rename_i hg
          rw [if_pos hg] at this
          simp [Instr.findAsking, this]
        · rename_i hg
          rw [if_neg hg] at this
          intro d hd
          simp [Instr.findNow, this d hd]
      · rename_i hb
        have := cmp false hb
        obtain ⟨r', h1, h2⟩ := ih es' (i + 1) r he' hm
        refine ⟨r', ?_, h2.shift⟩
        split
        · rename_i hg
          rw [if_pos hg] at this h1
          simp [Instr.findAsking, this, h1]
        · rename_i hg
          rw [if_neg hg] at this h1
          intro d hd
          simp [Instr.findNow, this d hd, h1 d hd]
      · cases hm
    · cases hm

theorem find_key {K : TypeId} {ks : List KK} {ag : Bool} (hks : flatT P 8 K = some ks) (hag : aggB P K = some ag) {m : Mem} {k k' : Nat} {w : World} {p : PV} {u : Value} {kc : List PV} (hp : Rep m k' p u) (hkc : keyC ag p = some kc)
    {rows : List (List PV)} {es : List MapEntry} {r : Option (Nat × PV)} (he : EntR m k rows es) (hm : mfind ks ag kc rows 0 = some r) :
    ∃ r', (Instr.findKey K u es).run P w = .ok r' w ∧ Found m k ks ag kc es 0 r r' := by
  obtain ⟨r', h1, h2⟩ := find_run (w := w) hks hag hp hkc rows es 0 r he hm
  refine ⟨r', ?_, h2⟩
  obtain ⟨d, hd⟩ : ∃ d, P.underlying K = some d := by
    unfold aggB at hag
    cases hu : P.underlying K with
    | none => rw [hu] at hag; cases hag
    | some d => exact ⟨d, rfl⟩
  cases ag with
  | true =>
    simp only [if_true] at h1
    rw [run_findKey_eq, h1]
    unfold aggB at hag
    rw [hd] at hag ⊢
    cases d <;> simp at hag ⊢
  | false =>
    simp only [Bool.false_eq_true, if_false] at h1
    exact MapKept.run_findKey hd (h1 d hd)

theorem pur_mget {t : TypeId} {x y : Operand} {ok : Bool} (h : o.op = .lookup t x y ok) : PurSound P call own o := by
  intro ao B k m w sl bl BL a p ns next Q hd he hl hin hn
  simp only [digOp, h] at hd
  split at hd
  · rename_i K E am ak hu hm hk
    have rx := opd (a := a) (m := m) (k := k) (sl := sl) hm (fun t ht => hl t (by simp [h, Op.operands, ht]))
    have ry := opd (a := a) (m := m) (k := k) (sl := sl) hk (fun t ht => hl t (by simp [h, Op.operands, ht]))
    split at hd
    · rename_i ks ag zp hks hag hz
      · cases hd
        simp only [evPur] at he
        split at he
        · rename_i kc rows hkc hrows
          split at he
          · rename_i hself
            have hchk : ∀ em, (Instr.checkKey em 10000 K (a.eval y)).run P w = .ok () w := fun em => check_run 8 K ks hks 10000 (by omega) em hag (keyC_scal hkc) ry hself
            obtain ⟨i, zv, hi, hzv, hzr⟩ := zeroS_spec hz
            have hzero : (zeroValue E).run P w = .ok zv w := by simp [zeroValue, typeInfo, hi, hzv]
            have hzrep : Rep m k zp zv := hzr m k
            -- the map
            have hmap : ∃ es : Array MapEntry, EntR m k rows es.toList ∧ (a.eval x = .map none ∧ es = #[] ∨ ∃ r clock, a.eval x = .map (some r) ∧ w.heap[r]? = some (.map es clock)) := by
              unfold mapRows at hrows
              split at hrows
              · rename_i b ver hv
                split at hrows
                · rename_i bx hgm
                  cases hrows
                  rw [hv] at rx
                  obtain ⟨inf, g1, g2, g3, g4, g5⟩ := mp_inv rx
                  obtain ⟨q1, q2, q3⟩ := getM_spec hgm
                  have hat := (hin.own.at_ b bx inf (hin.old q1) g2).map q3
                  obtain ⟨es, clock, e1, e2, _⟩ := hat.mem
                  refine ⟨es, ⟨by simpa using e2.1, fun r row hr => ?_⟩, .inr ⟨inf.g, clock, g5 (hat.ver.trans q2), e1⟩⟩
                  obtain ⟨kp, vp, e, f1, f2, f3, f4⟩ := e2.2 r row hr
                  refine ⟨kp, vp, e, f1, by simpa using f2, ?_, ?_⟩
                  · split at f3
                    · exact f3.up (Nat.zero_le _)
                    · exact f3
                  · split at f4
                    · exact f4.up (Nat.zero_le _)
                    · exact f4
                · cases hrows
              · rename_i hv
                cases hrows
                rw [hv] at rx
                exact ⟨#[], ⟨rfl, fun r row hr => by simp at hr⟩, .inl ⟨v_inv' rx, rfl⟩⟩
              · cases hrows
            obtain ⟨es, hent, hwhere⟩ := hmap
            have hrun : ∀ r', (Instr.findKey K (a.eval y) es.toList).run P w = .ok r' w → (Instr.lookup t (a.eval x) (a.eval y) ok).run P w = .ok (let q := match r' with | some (_, v) => (v, true) | none => (zv, false); if ok then .tuple #[q.1, .bool q.2] else q.1) w := by
              intro r' hr'
              rcases hwhere with ⟨e1, rfl⟩ | ⟨r, clock, e1, e2⟩
              · rw [e1]
                cases r' with
                | none => simp [Instr.lookup, run_underlying hu, hchk, hr', hzero, Result.andThen]
                | some q => simp [Instr.lookup, run_underlying hu, hchk, hr', Result.andThen]
              · rw [e1]
                cases r' with
                | none => simp [Instr.lookup, run_underlying hu, MapKept.run_getObj_map e2, hchk, hr', hzero, Result.andThen]
                | some q => simp [Instr.lookup, run_underlying hu, MapKept.run_getObj_map e2, hchk, hr', Result.andThen]
            have hfin : ∀ (q : PV) (v : Value) (b : Bool), Rep m k q v → Rep m k (if ok then .tup [q, .bool b] else q) (if ok then .tuple #[v, .bool b] else v) := by
              intro q v b hq
              cases ok
              · exact hq
              · refine .tup rfl (fun i p hp => ?_)
                match i with
                | 0 => simp at hp; subst hp; exact hq
                | 1 => simp at hp; subst hp; exact .bool
                | i + 2 => simp at hp
            split at he
            · rename_i j vq hfind
              cases he
              obtain ⟨r', f1, f2⟩ := find_key (w := w) hks hag ry hkc hent hfind
              cases r' with
              | none => exact f2.elim
              | some q =>
                obtain ⟨q1, q2⟩ := q
                obtain ⟨_, _, e, kp, cs, _, _, f3, _⟩ := f2
                exact wp_of_run (by simp only [execOp, h]; exact run_value (hrun _ f1)) (hn _ _ _ _ (PurOut.same hin.frz hin.own (hfin _ _ true f3)))
            · rename_i hfind
              cases he
              obtain ⟨r', f1, f2⟩ := find_key (w := w) hks hag ry hkc hent hfind
              cases r' with
              | some q => exact f2.elim
              | none => exact wp_of_run (by simp only [execOp, h]; exact run_value (hrun _ f1)) (hn _ _ _ _ (PurOut.same hin.frz hin.own (hfin _ _ false hzrep)))
            · cases he
          · cases he
        · cases he
    · cases hd
  · cases hd
end
end Go.Proofs.YtidkdiooempkpaaDoor
/- A call of a function, as an operation; all operations that change no block. -/
namespace Go.Proofs.YtidkdiooempkpaaDoor
open Go Go.RowKit
set_option linter.unusedSectionVars false
variable [Bs]
set_option linter.unusedVariables false
set_option linter.unusedSimpArgs false

section
variable {P : Program} {call : Cl} {own : List Nat} {o : Oper}

theorem cls_lt {n : Nat} {bl : Blks} {p : PV} (h : p.lt 0 = true) : cls (n + 1) bl p = some p := by
  unfold cls
  split
  · rfl
  · rename_i hn; exact absurd h hn
theorem thinL_get : ∀ {ps qs : List PV} (i : Nat) {p q : PV}, thinL ps qs = true → ps[i]? = some p → qs[i]? = some q → p.lt 0 = true ∨ q.noMem = true
  | [], _, i, p, q, _, h, _ => by simp at h
  | _ :: _, [], i, p, q, _, _, h => by simp at h
  | a :: ps, b :: qs, 0, p, q, h, h1, h2 => by
    simp at h1 h2; subst h1; subst h2
    simp only [thinL, Bool.and_eq_true, Bool.or_eq_true] at h
    exact h.1
  | a :: ps, b :: qs, i + 1, p, q, h, h1, h2 => by
    simp only [thinL, Bool.and_eq_true] at h
    exact thinL_get i h.2 (by simpa using h1) (by simpa using h2)

theorem call_main (hc : CallOk P call) {B k : Nat} {m : Mem} {w : World} {bl BL : Blks} {ow : Bool} {g : Nat} {ps : List PV} {vs : Array Value} {p : PV} {ns : List Blk} (h : callP call.p bl ow g ps = some (p, ns)) (hin : PurIn B k m w bl ns BL)
    (hl : ps.length = vs.size) (hr : ∀ (i : Nat) (p : PV), ps[i]? = some p → Rep m k p (vs.getD i undef)) :
    CallsX P g vs w fun e w' => ∃ v, e = .returned v ∧ ∃ m' k', PurOut B k m w bl.length ns.length BL p v m' w' k' := by
  unfold callP at h
  have fin : ∀ (r : PV), (if ow = true then some (impV bl.length r, impB r) else if (unfr r).lt 0 = true then some (unfr r, []) else none) = some (p, ns) → ∀ w' v, RetOk m w w' r v →
      ∃ m' k', PurOut B k m w bl.length ns.length BL p v m' w' k' := by
    intro r hr w' v hret
    split at hr
    · cases hr
      obtain ⟨m', hm'⟩ := PurOut.import hin hret
      exact ⟨m', _, hm'⟩
    · split at hr
      · rename_i hlt
        cases hr
        obtain ⟨m', hm'⟩ := PurOut.unfr hin hret hlt
        exact ⟨m', _, hm'⟩
      · cases hr
  split at h
  · rename_i hlt
    split at h
    · rename_i r hcr
      have hcall := hc.1 _ _ _ hcr
      refine (hcall m w vs hl (fun i p hp => (hr i p hp).down (ltL_all hlt i p hp)) hin.frz).mono ?_
      rintro e w' ⟨v, he, hret⟩
      exact ⟨v, he, fin r h w' v hret⟩
    · cases h
  · split at h
    · rename_i qs hqs
      split at h
      · rename_i r hcr
        split at h
        · rename_i hnmt
          have hcall := hc.1 _ _ _ hcr
          obtain ⟨q1, q2⟩ := mapO_spec hqs
          have hsub : ∀ (j : Nat) (x : Option Blk), bl[j]? = some x → BL[j]? = some x := fun j x hx => hin.old hx
          rcases (Bool.or_eq_true _ _).mp hnmt with hnm | hth
          rotate_left
          · refine (hcall m w vs (q1.trans hl) (fun i q hq => ?_) hin.frz).mono ?_
            · obtain ⟨p0, hp0, hcl⟩ := q2 i q hq
              rcases thinL_get i hth hp0 hq with hlt | hnm
              · have : q = p0 := by
                  rw [show clsFuel = 19 + 1 from rfl, cls_lt hlt] at hcl
                  exact (Option.some.inj hcl).symm
                subst this
                exact (hr i _ hp0).down hlt
              · exact (cls_rep hin.frz hin.own hsub clsFuel p0 q _ k hcl (hr i p0 hp0)).free hnm
            · rintro e w' ⟨v, he, hret⟩
              exact ⟨v, he, fin r h w' v hret⟩
          refine (hcall (lend m w BL) w vs (q1.trans hl) (fun i q hq => ?_) (addCells_frz (mb := m.blk) hin.frz _)).mono ?_
          · obtain ⟨p0, hp0, hcl⟩ := q2 i q hq
            exact cls_rep hin.frz hin.own hsub clsFuel p0 q _ k hcl (hr i p0 hp0)
          · rintro e w' ⟨v, he, hret⟩
            exact ⟨v, he, fin r h w' v (hret.strip hin.frz hnm)⟩
        · cases h
      · cases h
    · cases h

theorem run_callFunc {g : Nat} {fn : Func} {args : Array Value} {w : World} (hf : P.funcs[g]? = some fn) (hb : fn.body.isSome = true) (hn : fn.name ≠ "runtime.NumGoroutine") : (callFunc g args).run P w = .ok (.enter g args) w := by
  have h1 : (fn.name == "runtime.NumGoroutine") = false := by simpa using hn
  have h2 : fn.body.isNone = false := by cases hx : fn.body <;> simp_all
  simp only [callFunc, Sem.run_bind, run_program, Result.andThen_ok, hf, h1, Bool.false_eq_true, if_false, h2]
  rfl

theorem exec_value {c : Call} {f : Operand} {a : Act} {w : World} {g : Nat} {caps : Array Value} (hcal : c.callee = .value f) (h : o.op = .call c) (hv : a.eval f = .func (.func g) #[] caps)
    (hfn : ∃ fn, P.funcs[g]? = some fn ∧ fn.body.isSome = true ∧ fn.name ≠ "runtime.NumGoroutine") :
    (execOp a.eval o).run P w = .ok (.enter g (c.args.map a.eval ++ caps)) w := by
  obtain ⟨fn, h1, h2, h3⟩ := hfn
  simp only [execOp, h, resolve, hcal, hv, Deferred.ofValue, Sem.run_bind, Sem.run_pure, Result.andThen_ok, invoke]
  rw [run_callFunc h1 h2 h3]
  simp

theorem upon_calls {a : Act} {w : World} {next : Act → World → Prop} {Q : Exit → Act → World → Prop} {g : Nat} {args : Array Value} (h : (execOp a.eval o).run P w = .ok (.enter g args) w)
    (hc : Calls P g args w fun e w' => ∃ v, e = .returned v ∧ next (a.put o.dst v) w') : o.wp P a w next Q := by
  unfold Oper.wp
  rw [h, Oper.upon_enter]
  refine hc.mono ?_
  rintro e w' ⟨v, rfl, hn⟩
  exact hn

/-- a call that ends here and now -/
theorem exec_now {c : Call} {f : Operand} {a : Act} {w : World} {g : Nat} {caps : Array Value} {v : Value} (hcal : c.callee = .value f) (h : o.op = .call c) (hv : a.eval f = .func (.func g) #[] caps)
    (hrun : (callFunc g (c.args.map a.eval ++ caps)).run P w = .ok (.value v) w) :
    (execOp a.eval o).run P w = .ok (.value v) w := by
  simp only [execOp, h, resolve, hcal, hv, Deferred.ofValue, Sem.run_bind, Sem.run_pure, Result.andThen_ok, invoke]
  simpa using hrun

theorem callsX_upon {c : Call} {f : Operand} {a : Act} {w : World} {g : Nat} {caps : Array Value} {next : Act → World → Prop} {Q : Exit → Act → World → Prop} (hcal : c.callee = .value f) (h : o.op = .call c) (hv : a.eval f = .func (.func g) #[] caps)
    (hc : CallsX P g (c.args.map a.eval ++ caps) w fun e w' => ∃ v, e = .returned v ∧ next (a.put o.dst v) w') : o.wp P a w next Q := by
  rcases hc with ⟨hfn, hc⟩ | ⟨_, v, hrun, v', he, hn⟩
  · exact upon_calls (exec_value hcal h hv hfn) hc
  · cases he
    exact wp_of_run (exec_now hcal h hv hrun) hn

theorem pur_call (hc : CallOk P call) {c : Call} {f : Operand} (h : o.op = .call c) (hcal : c.callee = .value f) : PurSound P call own o := by
  intro ao B k m w sl bl BL a p ns next Q hd he hl hin hn
  simp only [digOp, h, hcal] at hd
  have hopt : ∀ t, Operand.tmp t ∈ c.args.toList → Operand.tmp t ∈ o.op.operands := fun t ht => by
    rw [h]; simp only [Op.operands, Call.operands, hcal]
    simp only [Array.mem_append]
    exact .inr (by simpa using ht)
  split at hd
  · rename_i args ha
    obtain ⟨h1, h2⟩ := opds (m := m) (k := k) (sl := sl) (a := a) c.args.toList args (fun t ht => hl t (hopt t ht)) ha
    have hget : ∀ (i : Nat), (c.args.map a.eval).getD i undef = (c.args.toList.map a.eval).getD i undef := fun i => by rw [getD_toList]; simp
    have hsz : (args.map (·.ev sl)).length = (c.args.map a.eval).size := by simp [h1]
    cases f with
    | func g =>
      simp only [digCall] at hd
      split at hd
      · cases hd
        simp [evPur] at he
      cases hd
      simp only [evPur] at he
      have hcall := call_main hc he hin hsz (fun i p hp => by rw [hget]; exact h2 i p hp)
      refine callsX_upon (caps := #[]) hcal h rfl ?_
      rw [Array.append_empty]
      refine hcall.mono ?_
      rintro e w' ⟨v, he, m', k', hout⟩
      exact ⟨v, he, hn v m' w' k' hout⟩
    | tmp t =>
      simp only [digCall] at hd
      split at hd
      · cases hd
        simp [evPur] at he
      cases hd
      simp only [evPur, AO.ev] at he
      have rf : Rep m k (sl.getD t .top) (a.eval (.tmp t)) := hl t (by rw [h]; simp [Op.operands, Call.operands, hcal])
      split at he
      · rename_i g caps hfv
        rw [hfv] at rf
        obtain ⟨vs, e1, e2, e3⟩ := fn_inv rf
        have hcall := call_main (vs := c.args.map a.eval ++ vs) hc he hin (by simp [h1, e2]) (fun i p hp => by
          by_cases hi : i < args.length
          · rw [List.getElem?_append_left (by simpa using hi)] at hp
            have := h2 i p hp
            rw [← hget] at this
            rw [Array.getD_eq_getD_getElem?] at this ⊢
            rw [Array.getElem?_append_left (by rw [← hsz]; simpa using hi)]
            exact this
          · rw [List.getElem?_append_right (by simpa using Nat.le_of_not_lt hi)] at hp
            have := e3 _ p hp
            rw [Array.getD_eq_getD_getElem?] at this ⊢
            rw [Array.getElem?_append_right (by rw [← hsz]; simpa using Nat.le_of_not_lt hi), ← hsz]
            exact this)
        refine callsX_upon (caps := vs) hcal h e1 (hcall.mono ?_)
        rintro e w' ⟨v, he, m', k', hout⟩
        exact ⟨v, he, hn v m' w' k' hout⟩
      · cases he
    | const v => simp [digCall] at hd
    | global g => simp [digCall] at hd
  · cases hd

/-- every operation that changes no block does what its pure reading says -/
theorem pur_sound (hc : CallOk P call) (o : Oper) : PurSound P call own o := by
  intro ao B k m w sl bl BL a p ns next Q hd he hl hin hn
  cases h : o.op with
  | move x => exact pur_mov (.inl h) ao B k m w sl bl BL a p ns next Q hd he hl hin hn
  | assign x =>
    cases hx : isNilC x
    · exact pur_mov (.inr ⟨h, hx⟩) ao B k m w sl bl BL a p ns next Q hd he hl hin hn
    · exact pur_nilv h hx ao B k m w sl bl BL a p ns next Q hd he hl hin hn
  | pick c x y => exact pur_pick h ao B k m w sl bl BL a p ns next Q hd he hl hin hn
  | alloc t => exact pur_alloc h ao B k m w sl bl BL a p ns next Q hd he hl hin hn
  | box t x => exact pur_box h ao B k m w sl bl BL a p ns next Q hd he hl hin hn
  | build t ps => exact pur_build h ao B k m w sl bl BL a p ns next Q hd he hl hin hn
  | buildSlice t n ps => exact pur_bslice h ao B k m w sl bl BL a p ns next Q hd he hl hin hn
  | load t x => exact pur_load h ao B k m w sl bl BL a p ns next Q hd he hl hin hn
  | nilCheck x => exact pur_nilck h ao B k m w sl bl BL a p ns next Q hd he hl hin hn
  | binOp op t x y t2 => exact pur_bin h ao B k m w sl bl BL a p ns next Q hd he hl hin hn
  | unOp op t x => exact pur_un h ao B k m w sl bl BL a p ns next Q hd he hl hin hn
  | convert s d x => exact pur_conv h ao B k m w sl bl BL a p ns next Q hd he hl hin hn
  | makeSlice t l c => exact pur_make h ao B k m w sl bl BL a p ns next Q hd he hl hin hn
  | slice t x lo hi mx => exact pur_slc h ao B k m w sl bl BL a p ns next Q hd he hl hin hn
  | fieldAddr t x f => exact pur_faddr h ao B k m w sl bl BL a p ns next Q hd he hl hin hn
  | field t x f => exact pur_fld h ao B k m w sl bl BL a p ns next Q hd he hl hin hn
  | indexAddr t x y => exact pur_iaddr h ao B k m w sl bl BL a p ns next Q hd he hl hin hn
  | index t x y => exact pur_idx h ao B k m w sl bl BL a p ns next Q hd he hl hin hn
  | extract x i => exact pur_ext h ao B k m w sl bl BL a p ns next Q hd he hl hin hn
  | makeMap t r => exact pur_mkmap h ao B k m w sl bl BL a p ns next Q hd he hl hin hn
  | lookup t x y ok => exact pur_mget h ao B k m w sl bl BL a p ns next Q hd he hl hin hn
  | mapUpdate t x y z =>
    exfalso
    simp only [digOp, h, digSet] at hd
    repeat' split at hd
    all_goals first | (cases hd; done) | (cases hd; simp [evPur] at he)
  | insert t x y z =>
    exfalso
    simp only [digOp, h, digSet] at hd
    repeat' split at hd
    all_goals first | (cases hd; done) | (cases hd; simp [evPur] at he)
  | makeFunc fn first caps => exact pur_mkfn h ao B k m w sl bl BL a p ns next Q hd he hl hin hn
  | call c =>
    cases hcal : c.callee with
    | value f => exact pur_call hc h hcal ao B k m w sl bl BL a p ns next Q hd he hl hin hn
    | builtin b =>
      cases b with
      | len => exact pur_len h hcal ao B k m w sl bl BL a p ns next Q hd he hl hin hn
      | cap => exact pur_cap h hcal ao B k m w sl bl BL a p ns next Q hd he hl hin hn
      | min => exact pur_minmax h hcal (.inl rfl) ao B k m w sl bl BL a p ns next Q hd he hl hin hn
      | max => exact pur_minmax h hcal (.inr rfl) ao B k m w sl bl BL a p ns next Q hd he hl hin hn
      | append => exact pur_appz h hcal ao B k m w sl bl BL a p ns next Q hd he hl hin hn
      | copy =>
        exfalso
        simp only [digOp, h, hcal] at hd
        split at hd
        · simp only [digBuiltin] at hd
          repeat' split at hd
          all_goals first | contradiction | (cases hd; done) | (cases hd; simp [evPur] at he; done) | simp_all
        · cases hd
      | delete =>
        exfalso
        simp only [digOp, h, hcal] at hd
        split at hd
        · simp only [digBuiltin] at hd
          repeat' split at hd
          all_goals first | contradiction | (cases hd; done) | (cases hd; simp [evPur] at he; done) | simp_all
        · cases hd
      | clear =>
        exfalso
        simp only [digOp, h, hcal] at hd
        split at hd
        · simp only [digBuiltin] at hd
          repeat' split at hd
          all_goals first | contradiction | (cases hd; done) | (cases hd; simp [evPur] at he; done) | simp_all
        · cases hd
      | _ =>
        exfalso
        simp only [digOp, h, hcal] at hd
        split at hd
        · simp [digBuiltin] at hd
        · cases hd
    | invoke r n =>
      exfalso
      simp only [digOp, h, hcal] at hd
      split at hd <;> cases hd
  | store t x y =>
    exfalso
    simp only [digOp, h] at hd
    split at hd
    · cases hd; simp [evPur] at he
    · cases hd
  | _ => exfalso; simp [digOp, h] at hd

end
end Go.Proofs.YtidkdiooempkpaaDoor
/- The operations that change a block: stores, appends, copies. -/
namespace Go.Proofs.YtidkdiooempkpaaDoor
open Go Go.RowKit
set_option linter.unusedSectionVars false
variable [Bs]
set_option linter.unusedVariables false
set_option linter.unusedSimpArgs false

theorem EffIn.pur {B k m w bl} (h : EffIn B k m w bl) : PurIn B k m w bl [] bl := ⟨h.frz, h.own, h.hB, fun j x hx => by simpa using hx, fun j hj => absurd hj (by simp)⟩

/-- one block has changed -/
theorem EffOut.putA {B k k' : Nat} {m : Mem} {w w' : World} {bl bl' : Blks} {id : Nat} {x' : Blk} {p : PV} {v : Value} (i' : Info) (hin : EffIn B k m w bl)
    (hid : bl'[id]? = some (some x')) (hoth : ∀ j, j ≠ id → bl'[j]? = bl[j]?) (hk : k ≤ k') (hlen : bl.length ≤ bl'.length)
    (hw : ∀ b, b < w.heap.size → (∀ x i, bl[id]? = some (some x) → m.blk id = some i → i.virt = false → b ≠ i.g) → w'.heap[b]? = w.heap[b]?)
    (hbel : Below B w w') (hver : ∀ i, id < k → m.blk id = some i → i' = i ∨ i.ver < i'.ver)
    (hat : At (m.addBlk id i') k' w' i' x') (hg : i'.virt = false → w.heap.size ≤ i'.g ∨ ∃ x i, bl[id]? = some (some x) ∧ m.blk id = some i ∧ i.virt = false ∧ i.g = i'.g)
    (hr : Rep (m.addBlk id i') k' p v) : EffOut B k m w bl bl' p v (m.addBlk id i') w' k' := by
  have hmle : MLe k m (m.addBlk id i') := ⟨fun _ _ _ h => h, fun b i hb hi => by
    by_cases e : b = id
    · subst e; exact ⟨i', Mem.addBlk_same _ _ _, hver i hb hi⟩
    · exact ⟨i, by simpa [Mem.addBlk, e] using hi, .inl rfl⟩⟩
  -- blocks of others are not touched
  have far : ∀ j y i, j ≠ id → bl[j]? = some (some y) → m.blk j = some i → i.virt = false → w'.heap[i.g]? = w.heap[i.g]? := by
    intro j y i hj hy hi hv
    refine hw _ ((hin.own.at_ j y i hy hi).lt hv) (fun x i0 hx hi0 hv0 hgg => ?_)
    exact hj (hin.own.inj j y i id x i0 hy hi hx hi0 hv hv0 hgg)
  have farc : ∀ b o u, m.cell b o = some u → w'.heap[b]? = w.heap[b]? := by
    intro b o u hu
    refine hw b (World.block_lt_of_cell? w ⟨b, o, none⟩ (hin.frz.1 b o u hu).1) (fun x i0 hx hi0 hv0 hgg => ?_)
    have := (hin.own.base id x i0 hx hi0 hv0).2 o
    rw [← hgg, hu] at this
    cases this
  have oth : ∀ j, j ≠ id → (m.addBlk id i').blk j = m.blk j := fun j hj => by simp [Mem.addBlk, hj]
  refine ⟨hr, hmle, hk, ⟨fun b o u hu => ?_, hin.frz.2.1, fun g ob hg => by
    obtain ⟨⟨u, hu⟩, h3⟩ := hin.frz.2.2 g ob hg
    exact ⟨⟨u, hu⟩, (farc g 0 u (hin.frz.2.1 g 0 u hu)).trans h3⟩⟩, ⟨fun j y i hy hi => ?_, fun j y i hy hi hv => ?_, fun j y i j2 y2 i2 hy hi hy2 hi2 hv hv2 hgg => ?_⟩, hbel, fun _ _ _ h => .inl h, hlen, fun j hj => ?_⟩
  · obtain ⟨h1, h2⟩ := hin.frz.1 b o u hu
    exact ⟨(World.cell?_of_block (w := w) (a := ⟨b, o, none⟩) (farc b o u hu)).trans h1, h2⟩
  · by_cases e : j = id
    · subst e
      rw [Mem.addBlk_same] at hi
      cases hi
      rw [hid] at hy
      cases hy
      exact hat
    · rw [oth j e] at hi
      rw [hoth j e] at hy
      exact (hin.own.at_ j y i hy hi).mono hmle hk (fun hv => far j y i e hy hi hv)
  · by_cases e : j = id
    · subst e
      rw [Mem.addBlk_same] at hi
      cases hi
      rcases hg hv with h | ⟨x, i0, hx, hi0, hv0, hgg⟩
      · exact ⟨Nat.le_trans hin.hB h, fun o => frz_none hin.frz o h⟩
      · rw [← hgg]; exact hin.own.base j x i0 hx hi0 hv0
    · rw [oth j e] at hi
      rw [hoth j e] at hy
      exact hin.own.base j y i hy hi hv
  · by_cases e : j = id
    · by_cases e2 : j2 = id
      · omega
      · exfalso
        subst e
        rw [Mem.addBlk_same] at hi
        cases hi
        rw [oth j2 e2] at hi2
        rw [hoth j2 e2] at hy2
        rcases hg hv with h | ⟨x, i0, hx, hi0, hv0, hgg0⟩
        · have := (hin.own.at_ j2 y2 i2 hy2 hi2).lt hv2; omega
        · exact e2 (hin.own.inj j2 y2 i2 j x i0 hy2 hi2 hx hi0 hv2 hv0 (by omega))
    · rw [oth j e] at hi
      rw [hoth j e] at hy
      by_cases e2 : j2 = id
      · exfalso
        subst e2
        rw [Mem.addBlk_same] at hi2
        cases hi2
        rcases hg hv2 with h | ⟨x, i0, hx, hi0, hv0, hgg0⟩
        · have := (hin.own.at_ j y i hy hi).lt hv; omega
        · exact e (hin.own.inj j y i j2 x i0 hy hi hx hi0 hv hv0 (by omega))
      · rw [oth j2 e2] at hi2
        rw [hoth j2 e2] at hy2
        exact hin.own.inj j y i j2 y2 i2 hy hi hy2 hi2 hv hv2 hgg
  · have hlt : id < bl'.length := (List.getElem?_eq_some_iff.1 hid).1
    rw [oth j (by omega)]
    exact hin.fresh j (by omega)

theorem EffOut.put {B k k' : Nat} {m : Mem} {w w' : World} {bl bl' : Blks} {id : Nat} {x' : Blk} {p : PV} {v : Value} (i' : Info) (hin : EffIn B k m w bl)
    (hid : bl'[id]? = some (some x')) (hoth : ∀ j, j ≠ id → bl'[j]? = bl[j]?) (hk : k ≤ k') (hlen : bl.length ≤ bl'.length)
    (hw : ∀ b, b < w.heap.size → (∀ x i, bl[id]? = some (some x) → m.blk id = some i → i.virt = false → b ≠ i.g) → w'.heap[b]? = w.heap[b]?)
    (hbel : Below B w w') (hver : ∀ i, id < k → m.blk id = some i → i' = i ∨ i.ver < i'.ver)
    (hat : BlkAt (m.addBlk id i') k' w' i' x') (hg : i'.virt = false → w.heap.size ≤ i'.g ∨ ∃ x i, bl[id]? = some (some x) ∧ m.blk id = some i ∧ i.virt = false ∧ i.g = i'.g)
    (hr : Rep (m.addBlk id i') k' p v) : EffOut B k m w bl bl' p v (m.addBlk id i') w' k' :=
  EffOut.putA i' hin hid hoth hk hlen hw hbel hver (.inl hat) hg hr

def EffSound (P : Program) (call : Cl) (own : List Nat) (o : Oper) : Prop :=
  ∀ (ao : AOp) (B k : Nat) (m : Mem) (w : World) (sl : List PV) (bl bl' : Blks) (a : Act) (p : PV) (next : Act → World → Prop) (Q : Exit → Act → World → Prop),
    digOp P own o = some ao → evEff call sl bl ao = some (p, bl') → (∀ t, .tmp t ∈ o.op.operands → Rep m k (sl.getD t .top) (a.tmps.getD t undef)) →
    EffIn B k m w bl → (∀ v m' w' k', EffOut B k m w bl bl' p v m' w' k' → next (a.put o.dst v) w') → o.wp P a w next Q

section
variable {P : Program} {call : Cl} {own : List Nat} {o : Oper}

/-- some cells of a block overwritten -/
theorem rows_over {m : Mem} {k e : Nat} {rows : List (List PV)} {cur : Array Value} {r off : Nat} {row q : List PV} {vs : List Value} (h : RowsIn m k e rows cur) (hrow : rows[r]? = some row) (hl : ∀ r ∈ rows, r.length = e)
    (hle : off + q.length ≤ row.length) (hq : q.length = vs.length) (hv : ∀ (j : Nat) (p : PV), q[j]? = some p → ∃ u, vs[j]? = some u ∧ u.oneCell' = true ∧ Rep m k p u) (hsz : r * e + off + vs.length ≤ cur.size) :
    RowsIn m k e (rows.set r (row.take off ++ q ++ row.drop (off + q.length))) (cur.toList.take (r * e + off) ++ vs ++ cur.toList.drop (r * e + off + vs.length)).toArray := by
  have hre : row.length = e := hl row (List.mem_of_getElem? hrow)
  have hrlt : r < rows.length := (List.getElem?_eq_some_iff.1 hrow).1
  have get : ∀ t : Nat, (cur.toList.take (r * e + off) ++ vs ++ cur.toList.drop (r * e + off + vs.length)).toArray[t]? = if t < r * e + off then cur[t]? else if t < r * e + off + vs.length then vs[t - (r * e + off)]? else cur[t]? := by
    intro t
    rw [List.getElem?_toArray]
    have h1 : (cur.toList.take (r * e + off)).length = r * e + off := by simp; omega
    by_cases c1 : t < r * e + off
    · rw [if_pos c1, List.append_assoc, List.getElem?_append_left (by omega), List.getElem?_take_of_lt c1]; simp
    · rw [if_neg c1]
      by_cases c2 : t < r * e + off + vs.length
      · rw [if_pos c2, List.append_assoc, List.getElem?_append_right (by omega), List.getElem?_append_left (by omega), h1]
      · rw [if_neg c2, List.getElem?_append_right (by simp; omega)]
        simp only [List.length_append, h1, List.getElem?_drop]
        rw [show r * e + off + vs.length + (t - (r * e + off + vs.length)) = t by omega]
        simp
  intro r' row' j p hr' hj
  rw [get]
  by_cases er : r' = r
  · subst er
    rw [List.getElem?_set_self hrlt] at hr'
    cases hr'
    have h1 : (row.take off).length = off := by simp; omega
    by_cases c1 : j < off
    · rw [if_pos (by omega)]
      rw [List.append_assoc, List.getElem?_append_left (by omega), List.getElem?_take_of_lt c1] at hj
      exact h r' row j p hrow hj
    · rw [if_neg (by omega)]
      by_cases c2 : j < off + q.length
      · rw [if_pos (by omega)]
        rw [List.append_assoc, List.getElem?_append_right (by omega), List.getElem?_append_left (by omega), h1] at hj
        rw [show r' * e + j - (r' * e + off) = j - off by omega]
        exact hv _ p hj
      · rw [if_neg (by omega)]
        rw [List.getElem?_append_right (by simp; omega)] at hj
        simp only [List.length_append, h1, List.getElem?_drop] at hj
        rw [show off + q.length + (j - (off + q.length)) = j by omega] at hj
        exact h r' row j p hrow hj
  · rw [List.getElem?_set_ne (fun e => er e.symm)] at hr'
    have hj' : j < e := by rw [← hl row' (List.mem_of_getElem? hr')]; exact (List.getElem?_eq_some_iff.1 hj).1
    have hb := h r' row' j p hr' hj
    rcases Nat.lt_or_gt_of_ne er with c | c
    · have : (r' + 1) * e ≤ r * e := Nat.mul_le_mul_right _ (by omega)
      rw [Nat.add_mul] at this
      rw [if_pos (by omega)]
      exact hb
    · have : (r + 1) * e ≤ r' * e := Nat.mul_le_mul_right _ (by omega)
      rw [Nat.add_mul] at this
      rw [if_neg (by omega), if_neg (by omega)]
      exact hb

theorem below_setRow {B : Nat} {w : World} {g : Nat} (cs : Array Value) (h : B ≤ g) : Below B w (w.setRow g cs) :=
  ⟨rfl, rfl, rfl, by simp [World.setRow], fun k hk => setRow_other w g k cs (by omega)⟩

theorem eff_store {t : TypeId} {x y : Operand} (h : o.op = .store t x y) : EffSound P call own o := by
  intro ao B k m w sl bl bl' a p next Q hd he hl hin hn
  simp only [digOp, h] at hd
  split at hd
  · rename_i ax ay i hx hy hi
    cases hd
    have rx := opd (a := a) (m := m) (k := k) (sl := sl) hx (fun t ht => hl t (by simp [h, Op.operands, ht]))
    have ry := opd (a := a) (m := m) (k := k) (sl := sl) hy (fun t ht => hl t (by simp [h, Op.operands, ht]))
    simp only [evEff] at he
    split at he
    · rename_i b ver r off hp
      split at he
      · rename_i bx hgb
        split at he
        · rename_i row hrow
          split at he
          · rename_i hc
            cases he
            obtain ⟨c1, c2, c3⟩ := hc
            rw [hp] at rx
            obtain ⟨inf, g1, g2, g3, g4, g5⟩ := ptr_read hin.pur rx hgb hrow
            obtain ⟨hbl, hverb⟩ := getB_spec hgb
            obtain ⟨q1, q2⟩ := cells_rep ry c3
            rcases g2.mem with ⟨hv', _⟩ | ⟨_, cur, ty, m1, m2, m3, m4, m5⟩
            · rw [g3] at hv'; cases hv'
            · have hrl : row.length = bx.e := g2.rowl row (List.mem_of_getElem? hrow)
              have hr1 : r < bx.rows.length := (List.getElem?_eq_some_iff.1 hrow).1
              have hvl : (a.eval y).cells.toList.length = i.size := by rw [Array.length_toList, q1, c1]
              have hsz : r * bx.e + off + (a.eval y).cells.toList.length ≤ cur.size := by
                rw [hvl, m2]
                have h1 : (r + 1) * bx.e ≤ inf.cap * bx.e := Nat.mul_le_mul_right _ (by have := g2.n; omega)
                rw [Nat.add_mul] at h1
                rw [g2.e]
                omega
              have hone : ∀ v ∈ (a.eval y).cells.toList, v.oneCell' = true := by
                intro v hv
                obtain ⟨j, hj⟩ := List.getElem?_of_mem hv
                have hj' : j < (ay.ev sl).cells.length := by rw [← q1]; simpa using (List.getElem?_eq_some_iff.1 hj).1
                obtain ⟨u, e1, e2, _⟩ := q2 j _ (List.getElem?_eq_getElem hj')
                rw [Array.getElem?_toList] at hj
                rw [hj] at e1
                cases e1
                exact e2
              have hst := run_storeCells_at P inf.g (r * bx.e + off) ty (a.eval y).cells.toList 0 cur w m1 (by simpa using hsz) hone
              simp only [Nat.add_zero] at hst
              have hszr : (sizeOf t).run P w = .ok i.size w := by simp [sizeOf, typeInfo, hi]
              have hcsz : (a.eval y).cells.size = i.size := by rw [q1, c1]
              refine wp_of_skip (w' := w.setRow inf.g (cur.toList.take (r * bx.e + off) ++ (a.eval y).cells.toList ++ cur.toList.drop (r * bx.e + off + (a.eval y).cells.toList.length)).toArray) ?_ (hn _ (m.addBlk b inf) _ k (EffOut.put (x' := ⟨bx.ver, bx.e, bx.flat && PV.lt.ltL 0 (ay.ev sl).cells, bx.rows.set r (row.take off ++ (ay.ev sl).cells ++ row.drop (off + i.size))⟩) inf hin (by rw [List.getElem?_set_self (List.getElem?_eq_some_iff.1 hbl).1]) (fun j hj => by rw [List.getElem?_set_ne (fun e => hj e.symm)]) (Nat.le_refl _) (by simp) (fun b' _ hb' => setRow_other _ _ _ _ (hb' bx inf hbl g1 g3)) (below_setRow _ (hin.own.base b bx inf hbl g1 g3).1) (fun i' _ hi' => .inl (by rw [g1] at hi'; cases hi'; rfl)) ⟨g2.ver, g2.e, ?_, ?_, .inr ⟨g3, _, ty, setRow_heap w _ cur _ ty _ m1, ?_, m3, m4, ?_⟩, g2.ne⟩ (fun _ => .inr ⟨bx, inf, hbl, g1, g3, rfl⟩) .top))
              · simp only [execOp, h, g4]
                simp only [Instr.storeAt, Instr.sureAddr, storeVar, Sem.run_bind, Sem.run_pure, Result.andThen_ok, hszr, hcsz]
                simp [hst]
              · simp [g2.n]
              · intro r' hr'
                rcases List.mem_or_eq_of_mem_set hr' with hr' | hr'
                · exact g2.rowl r' hr'
                · subst hr'
                  simp
                  omega
              · simp only [List.size_toArray, List.length_append, List.length_take, List.length_drop, Array.length_toList]
                rw [← m2]
                simp only [Array.length_toList] at hsz
                omega
              · have hm' : MLe 0 m (m.addBlk b inf) := ⟨fun _ _ _ h => h, fun _ _ hb => absurd hb (by omega)⟩
                have hmk : MLe k m (m.addBlk b inf) := ⟨fun _ _ _ h => h, fun b' i' hb hi' => by
                  by_cases e : b' = b
                  · subst e; rw [g1] at hi'; cases hi'; exact ⟨_, Mem.addBlk_same _ _ _, .inl rfl⟩
                  · exact ⟨i', by simpa [Mem.addBlk, e] using hi', .inl rfl⟩⟩
                have hql : (ay.ev sl).cells.length = (a.eval y).cells.toList.length := by rw [hvl, c1]
                have := fun kk (hk : RowsIn m kk bx.e bx.rows cur) (hv : ∀ (j : Nat) (p : PV), (ay.ev sl).cells[j]? = some p → ∃ u, (a.eval y).cells.toList[j]? = some u ∧ u.oneCell' = true ∧ Rep m kk p u) => rows_over (q := (ay.ev sl).cells) hk hrow g2.rowl (by rw [c1]; exact c2) hql hv hsz
                rw [c1] at this
                cases hfl : bx.flat && PV.lt.ltL 0 (ay.ev sl).cells
                · simp only [Bool.false_eq_true, if_false]
                  refine (this k ?_ (fun j p hj => by simpa using q2 j p hj)).mono hmk (Nat.le_refl _)
                  split at m5
                  · exact m5.mono (MLe.refl _ _) (Nat.zero_le _)
                  · exact m5
                · simp only [Bool.and_eq_true] at hfl
                  simp only [if_true]
                  refine (this 0 ?_ (fun j p hj => by
                    obtain ⟨u, e1, e2, e3⟩ := q2 j p hj
                    exact ⟨u, by simpa using e1, e2, e3.down (ltL_all hfl.2 j p hj)⟩)).mono hm' (Nat.le_refl _)
                  rw [hfl.1] at m5
                  exact m5
          · cases he
        · cases he
      · cases he
    · cases he
  · cases hd

end
end Go.Proofs.YtidkdiooempkpaaDoor
/- Appends and copies. -/
namespace Go.Proofs.YtidkdiooempkpaaDoor
open Go Go.RowKit
set_option linter.unusedSectionVars false
variable [Bs]
set_option linter.unusedVariables false
set_option linter.unusedSimpArgs false

section
variable {P : Program} {own : List Nat} {o : Oper}

/-- what an appended or copied value reads as -/
structure News (P : Program) (m : Mem) (k : Nat) (w : World) (e : Nat) (news : List (List PV)) (x : Value) (cs : List Value) : Prop where
  len : cs.length = news.length * e
  rowl : ∀ r ∈ news, r.length = e
  lenOf : ∀ w, (Builtin.lenOf x).run P w = .ok news.length w
  first : ∀ n, n ≤ news.length → ∀ w', (∀ b o, w'.cell? ⟨b, o, none⟩ = w.cell? ⟨b, o, none⟩) → (Builtin.firstCells e n x).run P w' = .ok (cs.take (n * e)).toArray w'
  one : ∀ u ∈ cs, u.oneCell' = true
  rep : ∀ (i : Nat) (row : List PV) (j : Nat) (q : PV), news[i]? = some row → row[j]? = some q → ∃ u, cs[i * e + j]? = some u ∧ Rep m k q u

theorem news_read {B k : Nat} {m : Mem} {w : World} {bl BL : Blks} {ns : List Blk} (hin : PurIn B k m w bl ns BL) {e : Nat} (he : 0 < e) {p : PV} {news : List (List PV)} {x : Value}
    (h : (match p with | .str t => if e = 1 then some (rowsOfBytes t) else none | p => rowsOf e bl p) = some news) (hr : Rep m k p x) : ∃ cs, News P m k w e news x cs := by
  split at h
  · rename_i t
    split at h
    · rename_i he1
      cases h
      subst he1
      obtain ⟨s, rfl, hs⟩ := str_inv hr
      have hsz : t.length = s.size := by rw [← hs]; rfl
      refine ⟨t.map fun b => .int .u8 (b.toNat : Int), by simp [rowsOfBytes], fun r hr => ?_, fun w => by simp [Builtin.lenOf, rowsOfBytes, hsz], fun n hn w' _ => ?_, fun u hu => ?_, fun i row j q hi hj => ?_⟩
      · simp only [rowsOfBytes, List.mem_map] at hr
        obtain ⟨b, _, rfl⟩ := hr
        rfl
      · simp only [Builtin.firstCells, Sem.run_pure, Nat.mul_one]
        congr 1
        apply Array.ext'
        rw [← hs]
        simp [List.map_take, List.extract_eq_drop_take']
      · simp only [List.mem_map] at hu
        obtain ⟨b, _, rfl⟩ := hu
        rfl
      · simp only [rowsOfBytes, List.getElem?_map, Option.map_eq_some_iff] at hi
        obtain ⟨b, hb, rfl⟩ := hi
        cases j with
        | zero => simp at hj; subst hj; exact ⟨_, by simp [hb], .int⟩
        | succ j => simp at hj
    · cases h
  · obtain ⟨base, cap, h1, h2, h3⟩ := rows_read hin h hr
    subst h1
    rcases h3 with rfl | ⟨b, off, rfl, h4⟩
    · exact ⟨[], by simp, by simp, fun w => by simp [Builtin.lenOf], fun n hn w' _ => by
        have : n = 0 := by simpa using hn
        subst this
        cases base <;> simp [Builtin.firstCells, loadCells, loadCellsFrom], by simp, fun i row j q hi => by simp at hi⟩
    · obtain ⟨cs, c1, c2⟩ := list_ex (P := fun t u => w.cell? ⟨b, off + t, none⟩ = some u ∧ u.oneCell' = true ∧ ∀ row q, news[t / e]? = some row → row[t % e]? = some q → Rep m k q u) (news.length * e) (fun t ht => by
        have hi : t / e < news.length := Nat.div_lt_of_lt_mul (by rw [Nat.mul_comm]; exact ht)
        have hrow : (news[t / e]).length = e := h2 _ (List.getElem_mem hi)
        have hj : t % e < (news[t / e]).length := by rw [hrow]; exact Nat.mod_lt _ he
        obtain ⟨u, g1, g2, g3⟩ := h4 (t / e) _ (t % e) _ (List.getElem?_eq_getElem hi) (List.getElem?_eq_getElem hj)
        have : off + t / e * e + t % e = off + t := by have := Nat.div_add_mod t e; rw [Nat.mul_comm] at this; omega
        rw [this] at g1
        exact ⟨u, g1, g2, fun row q hrow hq => by rw [List.getElem?_eq_getElem hi] at hrow; cases hrow; rw [List.getElem?_eq_getElem hj] at hq; cases hq; exact g3⟩)
      refine ⟨cs, c1, h2, fun w => by simp [Builtin.lenOf], fun n hn w' hw' => ?_, fun u hu => ?_, fun i row j q hi hj => ?_⟩
      · refine run_firstCells_some w' e n ⟨b, off, none⟩ _ _ (cs.take (n * e)) ?_ (fun j v hj => ?_)
        · have : n * e ≤ news.length * e := Nat.mul_le_mul_right _ hn
          simp; omega
        · rw [List.getElem?_take] at hj
          split at hj
          · rw [Addr.add_lit, hw']; exact (c2 j v hj).1
          · cases hj
      · obtain ⟨t, ht⟩ := List.getElem?_of_mem hu
        exact (c2 t u ht).2.1
      · have hil : i < news.length := (List.getElem?_eq_some_iff.1 hi).1
        have hjl : j < e := by rw [← h2 row (List.mem_of_getElem? hi)]; exact (List.getElem?_eq_some_iff.1 hj).1
        have ht : i * e + j < cs.length := by
          rw [c1]
          have : (i + 1) * e ≤ news.length * e := Nat.mul_le_mul_right _ (by omega)
          rw [Nat.add_mul] at this
          omega
        have hd : (i * e + j) / e = i := by rw [Nat.mul_comm, Nat.mul_add_div he, Nat.div_eq_of_lt hjl, Nat.add_zero]
        have hm : (i * e + j) % e = j := by rw [Nat.mul_comm, Nat.mul_add_mod, Nat.mod_eq_of_lt hjl]
        have := (c2 _ _ (List.getElem?_eq_getElem ht)).2.2 row q (by rw [hd]; exact hi) (by rw [hm]; exact hj)
        exact ⟨_, List.getElem?_eq_getElem ht, this⟩

/-- append of nothing, or with room -/
theorem run_app_room {w : World} {t u ty e : TypeId} {i : TypeInfo} {du : TypeDesc} (ht : P.underlying t = some (.slice e)) (hu : P.underlying u = some du) (hdu : ∀ k, du ≠ .int k) (hi : P.info? e = some i)
    {m : Mem} {k : Nat} {news : List (List PV)} {x : Value} {cs : List Value} (hx : News P m k w i.size news x cs) {g off sLen sCap : Nat} {cur : Array Value} {tt : TypeId} (hg : w.heap[g]? = some (.cells cur tt (0, 0)))
    (hroom : sLen + news.length ≤ sCap) (hfit : off + sLen * i.size + cs.length ≤ cur.size) :
    (Builtin.append_ #[t, u] ty #[.slice (some ⟨g, off, none⟩) sLen sCap, x]).run P w =
      .ok (.slice (some ⟨g, off, none⟩) (sLen + news.length) sCap) (w.setRow g (cur.toList.take (off + sLen * i.size) ++ cs ++ cur.toList.drop (off + sLen * i.size + cs.length)).toArray) := by
  have hf := hx.first news.length (Nat.le_refl _) w (fun _ _ => rfl)
  rw [← hx.len, List.take_length] at hf
  have hst := run_storeCells_at P g (off + sLen * i.size) tt cs 0 cur w hg (by simpa using hfit) hx.one
  simp only [Nat.add_zero] at hst
  have hz : (match du with | .int _ => true | _ => false) = false := by cases du <;> first | rfl | exact absurd rfl (hdu _)
  simp [Builtin.append_, run_underlying ht, run_underlying hu, sizeOf, typeInfo, hi, hx.lenOf, hz, hroom, hf, Addr.add_lit, hst]

theorem run_app_none {w : World} {t u ty e : TypeId} {i : TypeInfo} {du : TypeDesc} (ht : P.underlying t = some (.slice e)) (hu : P.underlying u = some du) (hdu : ∀ k, du ≠ .int k) (hi : P.info? e = some i)
    {m : Mem} {k : Nat} {x : Value} {cs : List Value} (hx : News P m k w i.size [] x cs) {a : Option Addr} {sLen sCap : Nat} (hroom : sLen ≤ sCap) :
    (Builtin.append_ #[t, u] ty #[.slice a sLen sCap, x]).run P w = .ok (.slice a sLen sCap) w := by
  have hf := hx.first 0 (Nat.le_refl _) w (fun _ _ => rfl)
  simp only [Nat.zero_mul, List.take_zero] at hf
  have hz : (match du with | .int _ => true | _ => false) = false := by cases du <;> first | rfl | exact absurd rfl (hdu _)
  have hl := hx.lenOf
  simp only [List.length_nil] at hl
  cases a <;> simp [Builtin.append_, run_underlying ht, run_underlying hu, sizeOf, typeInfo, hi, hl, hz, hroom, hf, storeCells]

theorem run_app_grow {w : World} {t u ty e : TypeId} {i : TypeInfo} {z : Value} {du : TypeDesc} (ht : P.underlying t = some (.slice e)) (hu : P.underlying u = some du) (hdu : ∀ k, du ≠ .int k) (hi : P.info? e = some i) (hzv : i.zero = some z)
    {m : Mem} {k : Nat} {news : List (List PV)} {x : Value} {cs : List Value} (hx : News P m k w i.size news x cs) {a : Option Addr} {sLen sCap : Nat} {olds : List Value}
    (holds : ∀ w', (∀ b o, w'.cell? ⟨b, o, none⟩ = w.cell? ⟨b, o, none⟩) → (Builtin.firstCells i.size sLen (.slice a sLen sCap)).run P w' = .ok olds.toArray w')
    (hg : sCap < sLen + news.length) (h1 : sLen + news.length ≤ 140737488355328) (h2 : (sLen + news.length) * i.bytes ≤ 140737488355328) :
    ∃ cap, sLen + news.length ≤ cap ∧ cap ≤ maxLen ∧ (Builtin.append_ #[t, u] ty #[.slice a sLen sCap, x]).run P w =
      .ok (.slice (some ⟨w.heap.size, 0, none⟩) (sLen + news.length) cap) (w.drew.alloc (.cells (olds.toArray ++ cs.toArray ++ Builtin.zeroCells z.cells (cap - (sLen + news.length))) e)) := by
  have hf := hx.first news.length (Nat.le_refl _) w.drew (fun _ _ => rfl)
  rw [← hx.len, List.take_length] at hf
  have ho := holds w.drew (fun _ _ => rfl)
  have hz : (match du with | .int _ => true | _ => false) = false := by cases du <;> first | rfl | exact absurd rfl (hdu _)
  have hn : ¬ (sLen + news.length ≤ sCap) := by omega
  have h63' : ¬ (9223372036854775807 < ((sLen : Int) + (news.length : Int))) := by omega
  have h48 := growslice_fits hg h2
  have h48' : ¬ (281474976710656 < Builtin.nextslicecap (sLen + news.length) sCap * i.bytes) := by omega
  refine ⟨grownCap w (sLen + news.length) sCap e, grownCap_ge _ _ _ _, grownCap_le_maxLen _ _ _ _ (by simp [maxLen]; omega), ?_⟩
  simp [Builtin.append_, run_underlying ht, run_underlying hu, sizeOf, typeInfo, zeroValue, hi, hzv, hx.lenOf, hz, hn, h63', h48', Question.forced, hf, ho, newRow, grownCap]
  congr 2
  apply Array.ext'
  simp [List.append_assoc]

end
end Go.Proofs.YtidkdiooempkpaaDoor
/- Maps: written. -/
namespace Go.Proofs.YtidkdiooempkpaaDoor
open Go Go.RowKit
set_option linter.unusedSectionVars false
variable [Bs]
set_option linter.unusedVariables false
set_option linter.unusedSimpArgs false

section
variable {P : Program} {call : Cl} {own : List Nat} {o : Oper}

theorem same_cell {m : Mem} {k k' : Nat} {c : KK} {p q : PV} {u v : Value} (hp : Rep m k p u) (hq : Rep m k' q v) (h : eq1 c p q = some true) (n : Nat) : Instr.sameBits n u v = true := by
  cases c <;> cases p <;> cases q <;> simp [eq1] at h
  · rw [bool_inv hp, bool_inv hq]; simp [Instr.sameBits, h]
  · rw [int_inv hp, int_inv hq]; simp [Instr.sameBits, h]
  · obtain ⟨s1, rfl, e1⟩ := str_inv hp
    obtain ⟨s2, rfl, e2⟩ := str_inv hq
    simp only [Instr.sameBits]
    rw [beq_toListBytes, bytes_toList, bytes_toList, e1, e2, h]
    simp

theorem same_cells {m : Mem} {k k' : Nat} : ∀ {ks : List KK} {ps qs : List PV} {us vs : List Value}, eqL ks ps qs = some true → us.length = ps.length → vs.length = qs.length → (∀ i p, ps[i]? = some p → Rep m k p (us.getD i undef)) → (∀ i p, qs[i]? = some p → Rep m k' p (vs.getD i undef)) → ∀ n,
    (us.zip vs).all (fun (x, y) => Instr.sameBits n x y) = true
  | [], ps, qs, us, vs, h, h1, h2, hp, hq, n => by
    obtain ⟨e1, e2⟩ := eqL_len h
    have : us = [] := List.length_eq_zero_iff.1 (by rw [h1, e1]; rfl)
    subst this
    simp
  | c :: ks, p :: ps, q :: qs, u :: us, v :: vs, h, h1, h2, hp, hq, n => by
    simp only [eqL] at h
    split at h
    · rename_i x y hx hy
      cases x <;> cases y <;> simp at h
      have r1 := hp 0 p rfl
      have r2 := hq 0 q rfl
      simp only [List.zip_cons_cons, List.all_cons, Bool.and_eq_true]
      exact ⟨same_cell r1 r2 hx n, same_cells hy (by simpa using h1) (by simpa using h2) (fun i p h => by simpa using hp (i + 1) p (by simpa using h)) (fun i p h => by simpa using hq (i + 1) p (by simpa using h)) n⟩
    · cases h
  | c :: ks, [], qs, us, vs, h, _, _, _, _, _ => by simp [eqL] at h
  | c :: ks, _ :: _, [], us, vs, h, _, _, _, _, _ => by simp [eqL] at h
  | c :: ks, _ :: _, _ :: _, [], vs, h, h1, _, _, _, _ => by simp at h1
  | c :: ks, _ :: _, _ :: _, _ :: _, [], h, _, h2, _, _, _ => by simp at h2

theorem stays_run {m : Mem} {k k' : Nat} {w : World} {ks : List KK} {ag : Bool} {p q : PV} {u v : Value} {kc cs : List PV} (hp : Rep m k p u) (hq : Rep m k' q v) (h1 : keyC ag p = some kc) (h2 : keyC ag q = some cs) (h : eqL ks kc cs = some true) (hag : ag = false → ∃ c, ks = [c]) :
    (Instr.keyThatStays v u).run P w = .ok u w := by
  have hs : Instr.sameBits 10000 v u = true := by
    -- the comparison the other way round
    have sym : ∀ {ks : List KK} {as bs : List PV}, eqL ks as bs = some true → eqL ks bs as = some true := by
      intro ks
      induction ks with
      | nil => intro as bs h; obtain ⟨e1, e2⟩ := eqL_len h; rw [List.length_eq_zero_iff.1 e1, List.length_eq_zero_iff.1 e2]; rfl
      | cons c ks ih =>
        intro as bs h
        cases as with
        | nil => simp [eqL] at h
        | cons a as =>
          cases bs with
          | nil => simp [eqL] at h
          | cons b bs =>
            simp only [eqL] at h ⊢
            split at h
            · rename_i x y hx hy
              cases x <;> cases y <;> simp at h
              have h3 : eq1 c b a = some true := by
                cases c <;> cases a <;> cases b <;> simp [eq1] at hx ⊢ <;> first | exact hx.symm | exact ⟨hx.1.symm, hx.2.symm⟩
              rw [h3, ih hy]
              rfl
            · cases h
    have h' := sym h
    have s1 := keyC_scal h1
    have s2 := keyC_scal h2
    cases ag with
    | true =>
      simp [scal] at s1 s2
      subst s1 s2
      obtain ⟨us, rfl, a1, a2⟩ := agg_inv hp
      obtain ⟨vs, rfl, b1, b2⟩ := agg_inv hq
      have hl := eqL_len h'
      simp only [Instr.sameBits, Bool.and_eq_true, beq_iff_eq]
      refine ⟨by omega, ?_⟩
      exact same_cells h' (by simpa using b1.symm) (by simpa using a1.symm) (fun i p hp => by rw [← getD_toList]; exact b2 i p hp) (fun i p hp => by rw [← getD_toList]; exact a2 i p hp) 9999
    | false =>
      obtain ⟨c, hc⟩ := hag rfl
      obtain ⟨x, y, rfl, rfl, hxy⟩ := scal_one hc h'
      simp [scal] at s1 s2
      subst s1 s2
      exact same_cell hq hp hxy 10000
  simp [Instr.keyThatStays, hs]

theorem lt_two {k : Nat} {a b : PV} (h : PV.lt.ltL k [a, b] = true) : a.lt k = true ∧ b.lt k = true := by simpa [PV.lt.ltL] using h

theorem mapSet_run {t K E : TypeId} {r : Nat} {es : Array MapEntry} {clock : Nat} {w : World} {key val : Value} (hu : P.underlying t = some (.map K E)) (hb : w.heap[r]? = some (.map es clock)) (hchk : (Instr.checkKey false 10000 K key).run P w = .ok () w)
    {r' : Option (Nat × Value)} (hf : (Instr.findKey K key es.toList).run P w = .ok r' w) (hst : ∀ i v, r' = some (i, v) → ∃ e, es[i]? = some e ∧ (Instr.keyThatStays e.key key).run P w = .ok key w) :
    (Instr.mapUpdate t (.map (some r)) key val).run P w = .ok () { w with heap := w.heap.setIfInBounds r (match r' with | some (i, _) => .map (es.modify i fun e => { e with key := key, val := val }) clock | none => .map (es.push { key := key, val := val, born := clock }) (clock + 1)) } := by
  cases r' with
  | none => simp [Instr.mapUpdate, run_underlying hu, MapKept.run_getObj_map hb, hchk, hf, MapKept.run_setObj_map _ hb, Result.andThen]
  | some q =>
    obtain ⟨i, v⟩ := q
    obtain ⟨e, h1, h2⟩ := hst i v rfl
    simp [Instr.mapUpdate, run_underlying hu, MapKept.run_getObj_map hb, hchk, hf, h1, h2, MapKept.run_setObj_map _ hb, Result.andThen]

theorem born_modify {es : Array MapEntry} {clock : Nat} (h : BornOk es clock) (i : Nat) (f : MapEntry → MapEntry) (hf : ∀ e, (f e).born = e.born) : BornOk (es.modify i f) clock := by
  have hm : (es.modify i f).toList.map (·.born) = es.toList.map (·.born) := by
    apply List.ext_getElem?
    intro j
    simp only [List.getElem?_map, Array.getElem?_toList, Array.getElem?_modify]
    split
    · cases es[j]? with
      | none => rfl
      | some e => simp [hf]
    · rfl
  refine ⟨fun e he => ?_, by rw [hm]; exact h.2⟩
  have : e.born ∈ (es.modify i f).toList.map (·.born) := List.mem_map.2 ⟨e, he, rfl⟩
  rw [hm] at this
  obtain ⟨e', he', hb⟩ := List.mem_map.1 this
  have := h.1 e' he'
  have hb : e'.born = e.born := hb
  omega
theorem born_push {es : Array MapEntry} {clock : Nat} (h : BornOk es clock) (k v : Value) : BornOk (es.push ⟨k, v, clock⟩) (clock + 1) := by
  refine ⟨fun e he => ?_, ?_⟩
  · simp at he
    rcases he with he | rfl
    · have := h.1 e (by simpa using he); omega
    · simp
  · simp only [Array.toList_push, List.map_append, List.map_cons, List.map_nil]
    rw [List.nodup_append]
    refine ⟨h.2, by simp, fun a ha b hb => ?_⟩
    simp at hb
    obtain ⟨e, he, rfl⟩ := List.mem_map.1 ha
    have := h.1 e he
    omega
theorem erase_toList {es : Array MapEntry} {i : Nat} : (es.eraseIdxIfInBounds i).toList = es.toList.eraseIdx i := by
  unfold Array.eraseIdxIfInBounds
  split
  · simp
  · rename_i hc
    rw [List.eraseIdx_of_length_le (by simpa using hc)]
theorem born_erase {es : Array MapEntry} {clock : Nat} (h : BornOk es clock) (i : Nat) : BornOk (es.eraseIdxIfInBounds i) clock := by
  have hl := erase_toList (es := es) (i := i)
  refine ⟨fun e he => ?_, ?_⟩
  · rw [hl] at he
    exact h.1 e (List.mem_of_mem_eraseIdx he)
  · rw [hl]
    exact ((List.eraseIdx_sublist _ _).map _).nodup h.2

theorem eff_mset {t : TypeId} {x y z : Operand} (h : o.op = .mapUpdate t x y z ∨ o.op = .insert t x y z) : EffSound P call own o := by
  intro ao B k m w sl bl bl' a p next Q hd he hl hin hn
  have hd' : digSet P t x y z = some ao := by
    rcases h with h | h <;> (simp only [digOp, h] at hd; exact hd)
  have hops : ∀ s, (x = .tmp s ∨ y = .tmp s ∨ z = .tmp s) → Operand.tmp s ∈ o.op.operands := by
    intro s hs
    rcases h with h | h <;> rw [h] <;> simp [Op.operands] <;> rcases hs with rfl | rfl | rfl <;> simp
  have hex : ∀ w', (Instr.mapUpdate t (a.eval x) (a.eval y) (a.eval z)).run P w = .ok () w' → (execOp a.eval o).run P w = .ok .skip w' := by
    intro w' hr
    rcases h with h | h <;> simp [execOp, h, hr]
  unfold digSet at hd'
  split at hd'
  · rename_i K E am ak av hu hm hk hv
    split at hd'
    · rename_i ks ag hks hag
      cases hd'
      have rx := opd (a := a) (m := m) (k := k) (sl := sl) hm (fun t ht => hl t (hops t (.inl ht)))
      have ry := opd (a := a) (m := m) (k := k) (sl := sl) hk (fun t ht => hl t (hops t (.inr (.inl ht))))
      have rz := opd (a := a) (m := m) (k := k) (sl := sl) hv (fun t ht => hl t (hops t (.inr (.inr ht))))
      simp only [evEff] at he
      split at he
      · rename_i kc b ver hkc hvx
        split at he
        · rename_i bx hgm
          split at he
          · rename_i hself
            have hchk := check_run (P := P) (w := w) 8 K ks hks 10000 (by omega) false hag (keyC_scal hkc) ry hself
            have hsing : ag = false → ∃ c, ks = [c] := fun hf => by
              obtain ⟨g', hg', hleaf⟩ := flatT_agg hks
              rw [hag] at hg'
              cases hg'
              obtain ⟨c, hc, _⟩ := hleaf hf
              exact ⟨c, hc⟩
            rw [hvx] at rx
            obtain ⟨inf, g1, g2, g3, g4, g5⟩ := mp_inv rx
            obtain ⟨q1, q2, q3⟩ := getM_spec hgm
            have hat := (hin.own.at_ b bx inf q1 g2).map q3
            obtain ⟨es, clock, e1, e2, e5⟩ := hat.mem
            have hav : a.eval x = .map (some inf.g) := g5 (hat.ver.trans q2)
            have hlt : b < bl.length := (List.getElem?_eq_some_iff.1 q1).1
            have hgl : inf.g < w.heap.size := (Array.getElem?_eq_some_iff.1 e1).1
            have hent : EntR m k bx.rows es.toList := ⟨by simpa using e2.1, fun r row hr => by
              obtain ⟨kp, vp, e, f1, f2, f3, f4⟩ := e2.2 r row hr
              refine ⟨kp, vp, e, f1, by simpa using f2, ?_, ?_⟩
              · split at f3
                · exact f3.up (Nat.zero_le _)
                · exact f3
              · split at f4
                · exact f4.up (Nat.zero_le _)
                · exact f4⟩
            -- the new world
            have fin : ∀ (rows' : List (List PV)) (es' : Array MapEntry) (clock' : Nat), bl' = bl.set b (some ⟨bx.ver, bx.e, bx.flat && PV.lt.ltL 0 [ak.ev sl, av.ev sl], rows'⟩) →
                MapIn m (if (bx.flat && PV.lt.ltL 0 [ak.ev sl, av.ev sl]) = true then 0 else k) rows' es' → BornOk es' clock' → p = .top →
                EffOut B k m w bl bl' .top undef (m.addBlk b inf) { w with heap := w.heap.setIfInBounds inf.g (.map es' clock') } k := by
              intro rows' es' clock' hbl' hin' hbo _
              subst hbl'
              have hset := MapKept.heap_set (o' := Obj.map es' clock') e1
              have hsame : m.addBlk b inf = m := by
                unfold Mem.addBlk
                congr 1
                funext j
                split
                · rename_i hj; rw [hj, g2]
                · rfl
              refine EffOut.putA (x' := ⟨bx.ver, bx.e, bx.flat && PV.lt.ltL 0 [ak.ev sl, av.ev sl], rows'⟩) inf hin (by simp [hlt]) (fun j hj => by rw [List.getElem?_set_ne (fun e => hj e.symm)]) (Nat.le_refl _) (by simp)
                (fun b' _ hb' => hset.2 b' (hb' bx inf q1 g2 hat.virt)) ⟨rfl, rfl, rfl, by simp, fun j hj => hset.2 j (by have := (hin.own.base b bx inf q1 g2 hat.virt).1; omega)⟩ (fun i _ hi => .inl (by rw [g2] at hi; cases hi; rfl))
                (.inr (.inl ⟨hat.ver, q3, hat.virt, es', clock', hset.1, ?_, hbo⟩)) (fun _ => .inr ⟨bx, inf, q1, g2, hat.virt, rfl⟩) .top
              rw [hsame]
              exact hin'
            have hdown : ∀ {kp vp : PV} {u v : Value} {r : Nat} {row : List PV}, bx.rows[r]? = some row → row = [kp, vp] → Rep m (if bx.flat = true then 0 else k) kp u → Rep m (if bx.flat = true then 0 else k) vp v →
                Rep m (if (bx.flat && PV.lt.ltL 0 [ak.ev sl, av.ev sl]) = true then 0 else k) kp u ∧ Rep m (if (bx.flat && PV.lt.ltL 0 [ak.ev sl, av.ev sl]) = true then 0 else k) vp v := by
              intro kp vp u v r row _ _ h1 h2
              cases hfl : bx.flat
              · rw [hfl] at h1 h2
                simpa using ⟨h1, h2⟩
              · rw [hfl] at h1 h2
                simp only [if_true] at h1 h2
                exact ⟨h1.up (Nat.zero_le _), h2.up (Nat.zero_le _)⟩
            have hnew : Rep m (if (bx.flat && PV.lt.ltL 0 [ak.ev sl, av.ev sl]) = true then 0 else k) (ak.ev sl) (a.eval y) ∧ Rep m (if (bx.flat && PV.lt.ltL 0 [ak.ev sl, av.ev sl]) = true then 0 else k) (av.ev sl) (a.eval z) := by
              split
              · rename_i hc
                simp only [Bool.and_eq_true] at hc
                obtain ⟨l1, l2⟩ := lt_two hc.2
                exact ⟨ry.down l1, rz.down l2⟩
              · exact ⟨ry, rz⟩
            split at he
            · -- it is there
              rename_i i vq hfind
              cases he
              obtain ⟨r', f1, f2⟩ := find_key (w := w) hks hag ry hkc hent hfind
              cases r' with
              | none => exact f2.elim
              | some q =>
                obtain ⟨j, v0⟩ := q
                obtain ⟨rfl, _, e, kp, cs, c1, c2, c3, c4, c5, c6⟩ := f2
                have c1' : es[i]? = some e := by simpa using c1
                have hil : i < es.size := (Array.getElem?_eq_some_iff.1 c1').1
                have hrun := mapSet_run (P := P) (val := a.eval z) hu e1 hchk f1 (fun i' v' hq => by
                  cases hq
                  exact ⟨e, c1', stays_run ry c4 hkc c5 c6 hsing⟩)
                refine wp_of_skip (hex _ (by rw [hav]; exact hrun)) (hn _ _ _ _ (fin _ _ _ rfl ⟨by simp [e2.1], fun r row hr => ?_⟩ (born_modify e5 i (fun e => { key := a.eval y, val := a.eval z, born := e.born }) (fun _ => rfl)) rfl))
                rw [List.getElem?_set] at hr
                by_cases hri : i = r
                · subst hri
                  simp only [if_true] at hr
                  split at hr
                  · cases hr
                    refine ⟨_, _, ⟨a.eval y, a.eval z, e.born⟩, rfl, ?_, hnew.1, hnew.2⟩
                    rw [Array.getElem?_modify, if_pos rfl, c1']
                    rfl
                  · cases hr
                · rw [if_neg hri] at hr
                  obtain ⟨kp, vp, e', d1, d2, d3, d4⟩ := e2.2 r row hr
                  obtain ⟨n1, n2⟩ := hdown hr d1 d3 d4
                  exact ⟨kp, vp, e', d1, by rw [Array.getElem?_modify, if_neg hri]; exact d2, n1, n2⟩
            · -- it is new
              rename_i hfind
              cases he
              obtain ⟨r', f1, f2⟩ := find_key (w := w) hks hag ry hkc hent hfind
              cases r' with
              | some q => exact f2.elim
              | none =>
                have hrun := mapSet_run (P := P) (val := a.eval z) hu e1 hchk f1 (fun i' v' hq => by cases hq)
                refine wp_of_skip (hex _ (by rw [hav]; exact hrun)) (hn _ _ _ _ (fin _ _ _ rfl ⟨by simp [e2.1], fun r row hr => ?_⟩ (born_push e5 _ _) rfl))
                rcases Nat.lt_trichotomy r bx.rows.length with hc | hc | hc
                · rw [List.getElem?_append_left hc] at hr
                  obtain ⟨kp, vp, e', d1, d2, d3, d4⟩ := e2.2 r row hr
                  obtain ⟨n1, n2⟩ := hdown hr d1 d3 d4
                  exact ⟨kp, vp, e', d1, by rw [Array.getElem?_push_lt (by rw [e2.1]; exact hc)]; rw [← d2, Array.getElem?_eq_getElem (by rw [e2.1]; exact hc)], n1, n2⟩
                · subst hc
                  simp at hr
                  subst hr
                  exact ⟨_, _, ⟨a.eval y, a.eval z, clock⟩, rfl, by rw [← e2.1]; simp, hnew.1, hnew.2⟩
                · rw [List.getElem?_eq_none (by simp; omega)] at hr; cases hr
            · cases he
          · cases he
        · cases he
      · cases he
    · cases hd'
  · cases hd'
theorem digDel_spec {args : List AO} {tys : List TypeId} {ao : AOp} (h : digBuiltin P .delete args tys = some ao) :
    ∃ am ak t u K E ks ag, args = [am, ak] ∧ tys = [t, u] ∧ P.underlying t = some (.map K E) ∧ flatT P 8 K = some ks ∧ aggB P K = some ag ∧ ao = .mdel ks ag am ak := by
  have key : ∃ am ak t u, args = [am, ak] ∧ tys = [t, u] := by
    rcases args with _ | ⟨s, _ | ⟨x, _ | ⟨y, r⟩⟩⟩ <;> rcases tys with _ | ⟨t, _ | ⟨u, _ | ⟨v, q⟩⟩⟩ <;> first
      | exact ⟨_, _, _, _, rfl, rfl⟩
      | (simp [digBuiltin] at h; done)
  obtain ⟨am, ak, t, u, rfl, rfl⟩ := key
  simp only [digBuiltin] at h
  split at h
  · rename_i K E hu
    split at h
    · rename_i ks ag h1 h2
      cases h
      exact ⟨am, ak, t, u, K, E, ks, ag, rfl, rfl, hu, h1, h2, rfl⟩
    · cases h
  · cases h

theorem eff_mdel {c : Call} (h : o.op = .call c) (hcal : c.callee = .builtin .delete) : EffSound P call own o := by
  intro ao B k m w sl bl bl' a p next Q hd he hl hin hn
  simp only [digOp, h, hcal] at hd
  split at hd
  · rename_i args hargs
    obtain ⟨am, ak, t, u, K, E, ks, ag, rfl, hty, hu, hks, hag, rfl⟩ := digDel_spec hd
    obtain ⟨h1, h2⟩ := opds (m := m) (k := k) (sl := sl) (a := a) c.args.toList _ (fun t ht => hl t (call_ops hcal h t ht)) hargs
    have hlen : c.args.toList.length = 2 := by simpa using h1.symm
    obtain ⟨o1, o2, hoo⟩ : ∃ o1 o2, c.args.toList = [o1, o2] := by
      cases hq : c.args.toList with
      | nil => rw [hq] at hlen; simp at hlen
      | cons o1 r => cases r with
        | nil => rw [hq] at hlen; simp at hlen
        | cons o2 r => cases r with
          | nil => exact ⟨o1, o2, rfl⟩
          | cons o3 r => rw [hq] at hlen; simp at hlen
    have hca : c.args = #[o1, o2] := by rw [← Array.toArray_toList (xs := c.args), hoo]
    have hct : c.argTypes = #[t, u] := by rw [← Array.toArray_toList (xs := c.argTypes), hty]
    rw [hoo] at h2
    have rx : Rep m k (am.ev sl) (a.eval o1) := by simpa using h2 0 _ rfl
    have ry : Rep m k (ak.ev sl) (a.eval o2) := by simpa using h2 1 _ rfl
    simp only [evEff] at he
    split at he
    · rename_i kc b ver hkc hvx
      split at he
      · rename_i bx hgm
        split at he
        · rename_i hself
          have hchk : ∀ em, (Instr.checkKey em 10000 K (a.eval o2)).run P w = .ok () w := fun em => check_run (P := P) (w := w) 8 K ks hks 10000 (by omega) em hag (keyC_scal hkc) ry hself
          rw [hvx] at rx
          obtain ⟨inf, g1, g2, g3, g4, g5⟩ := mp_inv rx
          obtain ⟨q1, q2, q3⟩ := getM_spec hgm
          have hat := (hin.own.at_ b bx inf q1 g2).map q3
          obtain ⟨es, clock, e1, e2, e5⟩ := hat.mem
          have hav : a.eval o1 = .map (some inf.g) := g5 (hat.ver.trans q2)
          have hlt : b < bl.length := (List.getElem?_eq_some_iff.1 q1).1
          have hgl : inf.g < w.heap.size := (Array.getElem?_eq_some_iff.1 e1).1
          have hent : EntR m k bx.rows es.toList := ⟨by simpa using e2.1, fun r row hr => by
            obtain ⟨kp, vp, e, f1, f2, f3, f4⟩ := e2.2 r row hr
            refine ⟨kp, vp, e, f1, by simpa using f2, ?_, ?_⟩
            · split at f3
              · exact f3.up (Nat.zero_le _)
              · exact f3
            · split at f4
              · exact f4.up (Nat.zero_le _)
              · exact f4⟩
          have hsame : m.addBlk b inf = m := by
            unfold Mem.addBlk
            congr 1
            funext j
            split
            · rename_i hj; rw [hj, g2]
            · rfl
          have fin : ∀ (rows' : List (List PV)) (es' : Array MapEntry), bl' = bl.set b (some ⟨bx.ver, bx.e, bx.flat, rows'⟩) →
              MapIn m (if bx.flat = true then 0 else k) rows' es' → BornOk es' clock → p = .top →
              EffOut B k m w bl bl' .top (.tuple #[]) (m.addBlk b inf) { w with heap := w.heap.setIfInBounds inf.g (.map es' clock) } k := by
            intro rows' es' hbl' hin' hbo _
            subst hbl'
            have hset := MapKept.heap_set (o' := Obj.map es' clock) e1
            refine EffOut.putA (x' := ⟨bx.ver, bx.e, bx.flat, rows'⟩) inf hin (by simp [hlt]) (fun j hj => by rw [List.getElem?_set_ne (fun e => hj e.symm)]) (Nat.le_refl _) (by simp)
              (fun b' _ hb' => hset.2 b' (hb' bx inf q1 g2 hat.virt)) ⟨rfl, rfl, rfl, by simp, fun j hj => hset.2 j (by have := (hin.own.base b bx inf q1 g2 hat.virt).1; omega)⟩ (fun i _ hi => .inl (by rw [g2] at hi; cases hi; rfl))
              (.inr (.inl ⟨hat.ver, q3, hat.virt, es', clock, hset.1, ?_, hbo⟩)) (fun _ => .inr ⟨bx, inf, q1, g2, hat.virt, rfl⟩) .top
            rw [hsame]
            exact hin'
          have hrun : ∀ r', (Instr.findKey K (a.eval o2) es.toList).run P w = .ok r' w → (execOp a.eval o).run P w = .ok (.value (.tuple #[])) { w with heap := w.heap.setIfInBounds inf.g (.map (match r' with | some (i, _) => es.eraseIdxIfInBounds i | none => es) clock) } := by
            intro r' hr'
            rw [exec_builtin hcal h]
            have hav' : a.eval o1 = Value.map (some inf.g) := hav
            cases r' with
            | none => simp [hca, hct, builtin, Builtin.delete_, hav', run_underlying hu, MapKept.run_getObj_map e1, hchk, hr', MapKept.run_setObj_map _ e1, Result.andThen]
            | some q => simp [hca, hct, builtin, Builtin.delete_, hav', run_underlying hu, MapKept.run_getObj_map e1, hchk, hr', MapKept.run_setObj_map _ e1, Result.andThen]
          split at he
          · rename_i i vq hfind
            cases he
            obtain ⟨r', f1, f2⟩ := find_key (w := w) hks hag ry hkc hent hfind
            cases r' with
            | none => exact f2.elim
            | some q =>
              obtain ⟨j, v0⟩ := q
              obtain ⟨rfl, _⟩ := f2
              refine wp_of_run (hrun _ f1) (hn _ _ _ _ (fin _ _ rfl ⟨?_, fun r row hr => ?_⟩ (born_erase e5 _) rfl))
              · rw [← Array.length_toList, erase_toList, List.length_eraseIdx, List.length_eraseIdx, Array.length_toList, e2.1]
              · rw [List.getElem?_eraseIdx] at hr
                rw [← Array.getElem?_toList, erase_toList, List.getElem?_eraseIdx]
                split at hr <;> rename_i hc
                · rw [if_pos hc, Array.getElem?_toList]; exact e2.2 r row hr
                · rw [if_neg hc, Array.getElem?_toList]; exact e2.2 (r + 1) row hr
          · rename_i hfind
            cases he
            obtain ⟨r', f1, f2⟩ := find_key (w := w) hks hag ry hkc hent hfind
            cases r' with
            | some q => exact f2.elim
            | none => exact wp_of_run (hrun _ f1) (hn _ _ _ _ (fin _ _ rfl e2 e5 rfl))
          · cases he
        · cases he
      · cases he
    · cases he
  · cases hd
end
end Go.Proofs.YtidkdiooempkpaaDoor
/- Appends and copies, as operations. -/
namespace Go.Proofs.YtidkdiooempkpaaDoor
open Go Go.RowKit
set_option linter.unusedSectionVars false
variable [Bs]
set_option linter.unusedVariables false
set_option linter.unusedSimpArgs false

section
variable {P : Program} {call : Cl} {own : List Nat} {o : Oper}

structure NewsR (m : Mem) (k : Nat) (e : Nat) (news : List (List PV)) (cs : List Value) : Prop where
  len : cs.length = news.length * e
  one : ∀ u ∈ cs, u.oneCell' = true
  rep : ∀ (i : Nat) (row : List PV) (j : Nat) (q : PV), news[i]? = some row → row[j]? = some q → ∃ u, cs[i * e + j]? = some u ∧ Rep m k q u
theorem News.r {m : Mem} {k : Nat} {w : World} {e : Nat} {news : List (List PV)} {x : Value} {cs : List Value} (h : News P m k w e news x cs) : NewsR m k e news cs := ⟨h.len, h.one, h.rep⟩
theorem News.take {m : Mem} {k : Nat} {w : World} {e : Nat} {news : List (List PV)} {x : Value} {cs : List Value} (h : News P m k w e news x cs) (n : Nat) (hn : n ≤ news.length) : NewsR m k e (news.take n) (cs.take (n * e)) := by
  have h1 : n * e ≤ news.length * e := Nat.mul_le_mul_right _ hn
  refine ⟨by simp; have := h.len; rw [this, Nat.min_eq_left h1, Nat.min_eq_left hn], fun u hu => h.one u (List.mem_of_mem_take hu), fun i row j q hi hj => ?_⟩
  rw [List.getElem?_take] at hi
  split at hi
  · rename_i hlt
    obtain ⟨u, h2, h3⟩ := h.rep i row j q hi hj
    refine ⟨u, ?_, h3⟩
    have hj' : j < e := by rw [← h.rowl row (List.mem_of_getElem? hi)]; exact (List.getElem?_eq_some_iff.1 hj).1
    have : (i + 1) * e ≤ n * e := Nat.mul_le_mul_right _ (by omega)
    rw [Nat.add_mul] at this
    rw [List.getElem?_take_of_lt (by omega)]
    exact h2
  · cases hi

/-- rows put in the place of others, or behind them -/
theorem rows_splice {m m' : Mem} {k k' e a : Nat} {fl : Bool} {rows news : List (List PV)} {cur cur' : Array Value} {cs : List Value} (hR : RowsIn m (if fl then 0 else k) e rows cur) (hN : NewsR m k e news cs)
    (hm : MLe k m m') (hk : k ≤ k') (ha : a ≤ rows.length) (hrl : ∀ r ∈ rows, r.length = e)
    (g1 : ∀ t : Nat, t < a * e → cur'[t]? = cur[t]?) (g2 : ∀ s : Nat, s < cs.length → cur'[a * e + s]? = cs[s]?) (g3 : ∀ t : Nat, a * e + cs.length ≤ t → t < rows.length * e → cur'[t]? = cur[t]?) :
    RowsIn m' (if (fl && news.all (PV.lt.ltL 0)) then 0 else k') e (rows.take a ++ news ++ rows.drop (a + news.length)) cur' := by
  have fromOld : ∀ (r : Nat) (row : List PV) (j : Nat) (p : PV), rows[r]? = some row → row[j]? = some p → cur'[r * e + j]? = cur[r * e + j]? → ∃ v, cur'[r * e + j]? = some v ∧ v.oneCell' = true ∧ Rep m' (if (fl && news.all (PV.lt.ltL 0)) then 0 else k') p v := by
    intro r row j p hr hj hc
    obtain ⟨v, h1, h2, h3⟩ := hR r row j p hr hj
    refine ⟨v, hc.trans h1, h2, ?_⟩
    cases fl
    · simp only [Bool.false_and, Bool.false_eq_true, if_false] at h3 ⊢
      exact (h3.mono hm).up hk
    · simp only [Bool.true_and, if_true] at h3 ⊢
      exact (h3.mono (hm.le (Nat.zero_le _))).up (Nat.zero_le _)
  intro r row j p hr hj
  have hlenA : (rows.take a).length = a := by simp; omega
  by_cases c1 : r < a
  · rw [List.append_assoc, List.getElem?_append_left (by omega), List.getElem?_take_of_lt c1] at hr
    have hj' : j < e := by rw [← hrl row (List.mem_of_getElem? hr)]; exact (List.getElem?_eq_some_iff.1 hj).1
    have : (r + 1) * e ≤ a * e := Nat.mul_le_mul_right _ (by omega)
    rw [Nat.add_mul] at this
    exact fromOld r row j p hr hj (g1 _ (by omega))
  · by_cases c2 : r < a + news.length
    · rw [List.append_assoc, List.getElem?_append_right (by omega), List.getElem?_append_left (by omega), hlenA] at hr
      obtain ⟨u, h1, h2⟩ := hN.rep _ row j p hr hj
      have hs : (r - a) * e + j < cs.length := (List.getElem?_eq_some_iff.1 h1).1
      have hidx : r * e + j = a * e + ((r - a) * e + j) := by
        have : r * e = (a + (r - a)) * e := by congr 1; omega
        rw [this, Nat.add_mul]; omega
      refine ⟨u, by rw [hidx, g2 _ hs]; exact h1, hN.one u (List.mem_of_getElem? h1), ?_⟩
      cases hfl : fl && news.all (PV.lt.ltL 0)
      · simp only [Bool.false_eq_true, if_false]
        exact (h2.mono hm).up hk
      · simp only [Bool.and_eq_true] at hfl
        simp only [if_true]
        exact (h2.down (ltL_all (all_get hfl.2 hr) j p hj)).mono (hm.le (Nat.zero_le _))
    · rw [List.getElem?_append_right (by simp; omega)] at hr
      simp only [List.length_append, hlenA, List.getElem?_drop] at hr
      rw [show a + news.length + (r - (a + news.length)) = r by omega] at hr
      have hrlt := (List.getElem?_eq_some_iff.1 hr).1
      have hj' : j < e := by rw [← hrl row (List.mem_of_getElem? hr)]; exact (List.getElem?_eq_some_iff.1 hj).1
      have h1 : (a + news.length) * e ≤ r * e := Nat.mul_le_mul_right _ (by omega)
      have h2 : (r + 1) * e ≤ rows.length * e := Nat.mul_le_mul_right _ (by omega)
      rw [Nat.add_mul] at h1 h2
      have h3 := hN.len
      exact fromOld r row j p hr hj (g3 _ (by omega) (by omega))

theorem splice_get {cur : Array Value} {cs : List Value} {a : Nat} (h : a + cs.length ≤ cur.size) (t : Nat) :
    (cur.toList.take a ++ cs ++ cur.toList.drop (a + cs.length)).toArray[t]? = if t < a then cur[t]? else if t < a + cs.length then cs[t - a]? else cur[t]? := by
  rw [List.getElem?_toArray]
  have h1 : (cur.toList.take a).length = a := by simp; omega
  by_cases c1 : t < a
  · rw [if_pos c1, List.append_assoc, List.getElem?_append_left (by omega), List.getElem?_take_of_lt c1]; simp
  · rw [if_neg c1]
    by_cases c2 : t < a + cs.length
    · rw [if_pos c2, List.append_assoc, List.getElem?_append_right (by omega), List.getElem?_append_left (by omega), h1]
    · rw [if_neg c2, List.getElem?_append_right (by simp; omega)]
      simp only [List.length_append, h1, List.getElem?_drop]
      rw [show a + cs.length + (t - (a + cs.length)) = t by omega]
      simp

theorem splice_size {cur : Array Value} {cs : List Value} {a : Nat} (h : a + cs.length ≤ cur.size) : (cur.toList.take a ++ cs ++ cur.toList.drop (a + cs.length)).toArray.size = cur.size := by
  simp; omega

theorem app_get1 {olds cs : List Value} {zs : Array Value} {t : Nat} (h : t < olds.length) : (olds.toArray ++ cs.toArray ++ zs)[t]? = olds.toArray[t]? := by
  rw [Array.append_assoc, Array.getElem?_append_left (by simpa using h)]
theorem app_get2 {olds cs : List Value} {zs : Array Value} {s : Nat} (h : s < cs.length) : (olds.toArray ++ cs.toArray ++ zs)[olds.length + s]? = cs[s]? := by
  rw [Array.append_assoc, Array.getElem?_append_right (by simp), Array.getElem?_append_left (by simp; omega)]
  simp
theorem splice_end {rows news : List (List PV)} : rows.take rows.length ++ news ++ rows.drop (rows.length + news.length) = rows ++ news := by
  rw [List.take_length, List.drop_eq_nil_of_le (by omega), List.append_nil]

theorem digApp_spec {args : List AO} {tys : List TypeId} {ao : AOp} (h : digBuiltin P .append args tys = some ao) (hk : ao.isEff = true) :
    ∃ s x t u e i z du, args = [s, x] ∧ tys = [t, u] ∧ P.underlying t = some (.slice e) ∧ P.info? e = some i ∧ i.zero = some z ∧ z.cells.size = i.size ∧ 0 < i.size ∧ P.underlying u = some du ∧ (∀ k, du ≠ .int k) ∧ (i.size < mapE) ∧ ao = .append i.size i.bytes s x := by
  have key : ∃ s x t u, args = [s, x] ∧ tys = [t, u] := by
    rcases args with _ | ⟨s, _ | ⟨x, _ | ⟨y, r⟩⟩⟩ <;> rcases tys with _ | ⟨t, _ | ⟨u, _ | ⟨v, q⟩⟩⟩ <;> first
      | exact ⟨_, _, _, _, rfl, rfl⟩
      | (simp [digBuiltin] at h; done)
  obtain ⟨s, x, t, u, rfl, rfl⟩ := key
  simp only [digBuiltin] at h
  split at h
  · rename_i e i hel
    have hne := elemP_ne hel
    obtain ⟨h1, h2⟩ := elemP_spec hel
    split at h
    · rename_i z hz
      split at h
      · rename_i hc
        split at h
        · rename_i e2 hu
          cases h
          exact ⟨s, x, t, u, e, i, z, .slice e2, rfl, rfl, h1, h2, hz, hc.1, hc.2, hu, (fun k hk => by cases hk), hne, rfl⟩
        · rename_i hu
          cases h
          exact ⟨s, x, t, u, e, i, z, .string, rfl, rfl, h1, h2, hz, hc.1, hc.2, hu, (fun k hk => by cases hk), hne, rfl⟩
        · split at h
          · cases h; simp [AOp.isEff] at hk
          · cases h
        · cases h
      · cases h
    · cases h
  · cases h

theorem two_args {m : Mem} {k : Nat} {sl : List PV} {a : Act} {c : Call} {b : Builtin} (hcal : c.callee = .builtin b) (h : o.op = .call c) {s x : AO} (ha : digL c.args.toList = some [s, x])
    (hl : ∀ t, Operand.tmp t ∈ o.op.operands → Rep m k (sl.getD t .top) (a.tmps.getD t undef)) : ∃ vs vx, c.args.map a.eval = #[vs, vx] ∧ Rep m k (s.ev sl) vs ∧ Rep m k (x.ev sl) vx := by
  obtain ⟨h1, h2⟩ := opds (m := m) (k := k) (sl := sl) (a := a) c.args.toList _ (fun t ht => hl t (call_ops hcal h t ht)) ha
  have hlen : c.args.toList.length = 2 := by simpa using h1.symm
  obtain ⟨o1, o2, hoo⟩ : ∃ o1 o2, c.args.toList = [o1, o2] := by
    cases hq : c.args.toList with
    | nil => rw [hq] at hlen; simp at hlen
    | cons o1 r => cases r with
      | nil => rw [hq] at hlen; simp at hlen
      | cons o2 r => cases r with
        | nil => exact ⟨o1, o2, rfl⟩
        | cons o3 r => rw [hq] at hlen; simp at hlen
  have hargs : c.args = #[o1, o2] := by rw [← Array.toArray_toList (xs := c.args), hoo]
  rw [hoo] at h2
  exact ⟨a.eval o1, a.eval o2, by rw [hargs]; simp, by simpa using h2 0 _ rfl, by simpa using h2 1 _ rfl⟩

theorem flat_cons {fl : Bool} (h : fl = true) (b : Bool) : (fl && b) = b := by rw [h]; rfl

set_option maxHeartbeats 1000000 in
theorem eff_append {c : Call} (h : o.op = .call c) (hcal : c.callee = .builtin .append) : EffSound P call own o := by
  intro ao B k m w sl bl bl' a p next Q hd he hl hin hn
  simp only [digOp, h, hcal] at hd
  split at hd
  · rename_i args ha
    obtain ⟨s, x, t, u, e, i, z, du, rfl, hty, ht, hi, hz, hzs, hpos, hu, hdu, hne, rfl⟩ := digApp_spec hd (by cases ao <;> first | rfl | (simp [evEff] at he; done))
    obtain ⟨vs, vx, hargs, rs, rx⟩ := two_args hcal h ha hl
    have htys : c.argTypes = #[t, u] := by rw [← Array.toArray_toList (xs := c.argTypes), hty]
    have hex := exec_builtin (a := a) hcal h
    rw [htys, hargs] at hex
    have fin : ∀ v w', (Builtin.append_ #[t, u] o.type #[vs, vx]).run P w = .ok v w' → (execOp a.eval o).run P w = .ok (.value v) w' := fun v w' hr => by
      rw [hex]
      simp [builtin, hr]
    simp only [evEff] at he
    split at he
    · rename_i news hnews
      obtain ⟨cs, hN⟩ := news_read (P := P) hin.pur hpos hnews rx
      have hz0 : ∀ q : Nat, (Builtin.zeroCells z.cells q).size = q * i.size := fun q => by rw [size_zeroCells, hzs]
      split at he
      · -- nil
        rename_i hs
        rw [hs] at rs
        obtain ⟨ad, rfl⟩ := nilS_inv rs
        split at he
        · rename_i hc
          cases he
          have hidx : (bl ++ [some (⟨news.length, i.size, news.all (PV.lt.ltL 0), news⟩ : Blk)])[bl.length]? = some (some ⟨news.length, i.size, news.all (PV.lt.ltL 0), news⟩) := by simp
          have hoth : ∀ j, j ≠ bl.length → (bl ++ [some (⟨news.length, i.size, news.all (PV.lt.ltL 0), news⟩ : Blk)])[j]? = bl[j]? := fun j hj => by
            rcases Nat.lt_or_gt_of_ne hj with c | c
            · rw [List.getElem?_append_left c]
            · rw [List.getElem?_eq_none (by simp; omega), List.getElem?_eq_none (by omega)]
          have hnone := hin.fresh bl.length (Nat.le_refl _)
          by_cases hn0 : news = []
          · subst hn0
            refine wp_of_run (fin _ _ (run_app_none ht hu hdu hi hN (Nat.le_refl _))) (hn _ (m.addBlk bl.length ⟨0, 0, i.size, 0, 0, true⟩) _ (k + bl.length + 1) (EffOut.put ⟨0, 0, i.size, 0, 0, true⟩ hin hidx hoth (by omega) (by simp) (fun _ _ _ => rfl) (Below.refl _ _) (fun i' _ hi' => by rw [hnone] at hi'; cases hi') ⟨rfl, rfl, rfl, by simp, .inl ⟨rfl, rfl⟩, hne⟩ (fun h => by cases h) ?_))
            exact .own (by omega) (Mem.addBlk_same _ _ _) (Nat.le_refl _) rfl (fun _ => .inl ⟨rfl, Nat.le_refl _, ad, rfl⟩)
          · have hnl : 0 < news.length := List.length_pos_iff.2 hn0
            obtain ⟨cap, q1, q2, q3⟩ := run_app_grow (ty := o.type) ht hu hdu hi hz hN (a := ad) (sLen := 0) (sCap := 0) (olds := []) (fun w' _ => by cases ad <;> simp [Builtin.firstCells, loadCells, loadCellsFrom]) (by omega) (by omega) (by have := hc.1; simpa using this)
            simp only [Nat.zero_add, List.append_nil] at q1 q3
            refine wp_of_run (fin _ _ q3) (hn _ (m.addBlk bl.length ⟨w.heap.size, news.length, i.size, news.length, cap, false⟩) _ (k + bl.length + 1) (EffOut.put ⟨w.heap.size, news.length, i.size, news.length, cap, false⟩ hin hidx hoth (by omega) (by simp) (fun b hb _ => heap_alloc_old w.drew _ b hb) (((Below.refl _ _).drew).alloc hin.hB _) (fun i' _ hi' => by rw [hnone] at hi'; cases hi') ⟨rfl, rfl, rfl, hN.rowl, .inr ⟨rfl, _, e, heap_alloc_new w.drew _, ?_, q1, q2, ?_⟩, hne⟩ (fun _ => .inl (Nat.le_refl _)) ?_))
            · simp [hz0, hN.len, ← Nat.add_mul]
              congr 1; omega
            · have hmk : MLe k m (m.addBlk bl.length ⟨w.heap.size, news.length, i.size, news.length, cap, false⟩) := (Mem.addBlk_keeps _ k hnone).mle
              have := rows_splice (a := 0) (fl := true) (rows := []) (cur := #[]) (k' := k + bl.length + 1) (cur' := #[] ++ cs.toArray ++ Builtin.zeroCells z.cells (cap - news.length)) (fun r row j p hr => by simp at hr) hN.r hmk (by omega) (Nat.le_refl _) (by simp) (fun t ht => by simp at ht) (fun s hs => by
                simp [List.getElem?_append_left, Array.getElem?_append, hs]) (fun t _ ht => by simp at ht)
              simpa using this
            · exact .own (by omega) (Mem.addBlk_same _ _ _) (Nat.le_refl _) rfl (fun _ => .inr ⟨rfl, cap, by simp, q1, by simp; omega, by simp⟩)
        · cases he
      · -- a slice with no room
        rename_i e' rows hs
        rw [hs] at rs
        obtain ⟨base, cap0, rfl, f1, f2, f3, f4⟩ := sl_inv rs
        have f3' := f3 rfl
        subst f3'
        split at he
        · rename_i hc
          obtain ⟨hee, hnl, hc1, hc2⟩ := hc
          subst hee
          cases he
          have hidx : (bl ++ [some (⟨rows.length + news.length, i.size, news.all (PV.lt.ltL 0), rows ++ news⟩ : Blk)])[bl.length]? = some (some ⟨rows.length + news.length, i.size, news.all (PV.lt.ltL 0), rows ++ news⟩) := by simp
          have hoth : ∀ j, j ≠ bl.length → (bl ++ [some (⟨rows.length + news.length, i.size, news.all (PV.lt.ltL 0), rows ++ news⟩ : Blk)])[j]? = bl[j]? := fun j hj => by
            rcases Nat.lt_or_gt_of_ne hj with c | c
            · rw [List.getElem?_append_left c]
            · rw [List.getElem?_eq_none (by simp; omega), List.getElem?_eq_none (by omega)]
          have hnone := hin.fresh bl.length (Nat.le_refl _)
          obtain ⟨olds, hO⟩ := news_read (P := P) hin.pur (p := .sl true i.size rows) (news := rows) hpos (by simp [rowsOf]) rs
          obtain ⟨cap, q1, q2, q3⟩ := run_app_grow (ty := o.type) ht hu hdu hi hz hN (a := base) (sLen := rows.length) (sCap := rows.length) (olds := olds) (fun w' hw' => by
            have := hO.first rows.length (Nat.le_refl _) w' hw'
            rwa [← hO.len, List.take_length] at this) (by omega) hc2 hc1
          refine wp_of_run (fin _ _ q3) (hn _ (m.addBlk bl.length ⟨w.heap.size, rows.length + news.length, i.size, rows.length + news.length, cap, false⟩) _ (k + bl.length + 1) (EffOut.put ⟨w.heap.size, rows.length + news.length, i.size, rows.length + news.length, cap, false⟩ hin hidx hoth (by omega) (by simp) (fun b hb _ => heap_alloc_old w.drew _ b hb) (((Below.refl _ _).drew).alloc hin.hB _) (fun i' _ hi' => by rw [hnone] at hi'; cases hi') ⟨rfl, rfl, by simp, (fun r hr => by
            rcases List.mem_append.1 hr with hr | hr
            · exact hO.rowl r hr
            · exact hN.rowl r hr), .inr ⟨rfl, _, e, heap_alloc_new w.drew _, ?_, q1, q2, ?_⟩, hne⟩ (fun _ => .inl (Nat.le_refl _)) ?_))
          · simp [hz0, hN.len, hO.len, ← Nat.add_mul]
            congr 1; omega
          · have hmk : MLe k m (m.addBlk bl.length ⟨w.heap.size, rows.length + news.length, i.size, rows.length + news.length, cap, false⟩) := (Mem.addBlk_keeps _ k hnone).mle
            have hold : RowsIn m 0 i.size rows olds.toArray := fun r row j p hr hj => by
              obtain ⟨uu, h1, h2⟩ := hO.rep r row j p hr hj
              rcases f4 with rfl | ⟨b, off, rfl, f5, f6⟩
              · simp at hr
              · obtain ⟨u2, g1, g2⟩ := f6 r row j p hr hj
                have g3 := (hin.frz.1 _ _ _ g1).1
                have h3 := hO.first rows.length (Nat.le_refl _) w (fun _ _ => rfl)
                rw [← hO.len, List.take_length] at h3
                refine ⟨uu, by simpa using h1, hO.one uu (List.mem_of_getElem? h1), ?_⟩
                have hrun := run_firstCells_some (P := P) w i.size rows.length ⟨b, off, none⟩ rows.length rows.length
                  ((List.range (rows.length * i.size)).map fun t => (w.cell? ⟨b, off + t, none⟩).getD undef) (by simp) (fun j' v' hj' => by
                    simp only [List.getElem?_map, Option.map_eq_some_iff] at hj'
                    obtain ⟨t, ht, rfl⟩ := hj'
                    have htl := (List.getElem?_eq_some_iff.1 ht)
                    obtain ⟨htl, hte⟩ := htl
                    simp at hte htl
                    subst hte
                    rw [Addr.add_lit]
                    have hi1 : j' / i.size < rows.length := Nat.div_lt_of_lt_mul (by rw [Nat.mul_comm]; exact htl)
                    have hrow : (rows[j' / i.size]).length = i.size := f5 _ (List.getElem_mem hi1)
                    have hj1 : j' % i.size < (rows[j' / i.size]).length := by rw [hrow]; exact Nat.mod_lt _ hpos
                    obtain ⟨u3, g4, _⟩ := f6 (j' / i.size) _ (j' % i.size) _ (List.getElem?_eq_getElem hi1) (List.getElem?_eq_getElem hj1)
                    have : off + j' / i.size * i.size + j' % i.size = off + j' := by have := Nat.div_add_mod j' i.size; rw [Nat.mul_comm] at this; omega
                    rw [this] at g4
                    rw [(hin.frz.1 _ _ _ g4).1]
                    rfl)
                rw [hrun] at h3
                injection h3 with h3 _
                have h4 : olds = (List.range (rows.length * i.size)).map fun t => (w.cell? ⟨b, off + t, none⟩).getD undef := by
                  have := congrArg Array.toList h3
                  simpa using this.symm
                have hlt : r * i.size + j < rows.length * i.size := by
                  have := (List.getElem?_eq_some_iff.1 h1).1
                  rwa [hO.len] at this
                rw [h4] at h1
                simp [hlt] at h1
                rw [← Nat.add_assoc, g3] at h1
                simp at h1
                rw [← h1]
                exact g2
            have := rows_splice (a := rows.length) (fl := true) (rows := rows) (cur := olds.toArray) (k' := k + bl.length + 1) (cur' := olds.toArray ++ cs.toArray ++ Builtin.zeroCells z.cells (cap - (rows.length + news.length))) (by simpa using hold) hN.r hmk (by omega) (Nat.le_refl _) hO.rowl (fun t ht => by
                exact app_get1 (by rw [hO.len]; exact ht)) (fun s hs => by
                rw [← hO.len]; exact app_get2 hs) (fun t h1 h2 => by omega)
            rw [splice_end] at this
            simpa using this
          · exact .own (by omega) (Mem.addBlk_same _ _ _) (Nat.le_refl _) rfl (fun _ => .inr ⟨rfl, cap, by simp, q1, by simp; omega, by simp⟩)
        · cases he
      · -- a slice of the call's own
        rename_i b ver lo len hs
        rw [hs] at rs
        obtain ⟨inf, g1, g2, g3, g4, g5⟩ := own_inv rs
        split at he
        · rename_i bx hgb
          obtain ⟨hat, hver⟩ := blk_of hin.pur hgb g2
          obtain ⟨hbl, hverb⟩ := getB_spec hgb
          have hblt : b < bl.length := (List.getElem?_eq_some_iff.1 hbl).1
          have hov := g5 hver
          split at he
          · rename_i hc
            obtain ⟨hee, hlo, hlen, hc1, hc2⟩ := hc
            cases he
            subst hlo
            have hidx : (bl.set b (some (⟨bx.ver + news.length, i.size, bx.flat && news.all (PV.lt.ltL 0), bx.rows ++ news⟩ : Blk)))[b]? = some (some ⟨bx.ver + news.length, i.size, bx.flat && news.all (PV.lt.ltL 0), bx.rows ++ news⟩) := List.getElem?_set_self hblt
            have hoth : ∀ j, j ≠ b → (bl.set b (some (⟨bx.ver + news.length, i.size, bx.flat && news.all (PV.lt.ltL 0), bx.rows ++ news⟩ : Blk)))[j]? = bl[j]? := fun j hj => List.getElem?_set_ne (fun e => hj e.symm)
            have hrowl : ∀ r ∈ bx.rows ++ news, r.length = i.size := fun r hr => by
              rcases List.mem_append.1 hr with hr | hr
              · rw [← hee]; exact hat.rowl r hr
              · exact hN.rowl r hr
            -- nothing is appended
            by_cases hn0 : news = []
            · subst hn0
              have hstay : (Builtin.append_ #[t, u] o.type #[vs, vx]).run P w = .ok vs w := by
                rcases hov with ⟨hz1, _, ad, rfl⟩ | ⟨hv, cap, rfl, q1, q2, q3⟩
                · exact run_app_none ht hu hdu hi hN (Nat.le_refl _)
                · exact run_app_none ht hu hdu hi hN q1
              refine wp_of_run (fin _ _ hstay) (hn _ (m.addBlk b inf) _ k (EffOut.put inf hin hidx hoth (Nat.le_refl _) (by simp) (fun _ _ _ => rfl) (Below.refl _ _) (fun i' _ hi' => .inl (by rw [g2] at hi'; cases hi'; rfl)) ⟨by simpa using hat.ver, by rw [hat.e, hee], by simpa using hat.n, by simpa using hrowl, ?_, hne⟩ (fun hv => .inr ⟨bx, inf, hbl, g2, hv, rfl⟩) ?_))
              · have hmk : MLe k m (m.addBlk b inf) := ⟨fun _ _ _ h => h, fun b' i' hb hi' => by
                  by_cases e : b' = b
                  · subst e; rw [g2] at hi'; cases hi'; exact ⟨_, Mem.addBlk_same _ _ _, .inl rfl⟩
                  · exact ⟨i', by simpa [Mem.addBlk, e] using hi', .inl rfl⟩⟩
                have := (hat.mono hmk (Nat.le_refl _) (fun _ => rfl)).mem
                simpa [hee] using this
              · exact .own g1 (Mem.addBlk_same _ _ _) (by simp; omega) g4 (fun _ => by simpa using hov)
            · have hnl : 0 < news.length := List.length_pos_iff.2 hn0
              have grow : ∀ (base : Option Addr) (cap0 : Nat) (olds : List Value), vs = .slice base len cap0 → cap0 < len + news.length → olds.length = bx.rows.length * i.size →
                  (∀ w', (∀ b o, w'.cell? ⟨b, o, none⟩ = w.cell? ⟨b, o, none⟩) → (Builtin.firstCells i.size len vs).run P w' = .ok olds.toArray w') → RowsIn m (if bx.flat then 0 else k) i.size bx.rows olds.toArray → o.wp P a w next Q := by
                intro base cap0 olds hvs hg hol hrd hR
                subst hvs
                obtain ⟨cap, q1, q2, q3⟩ := run_app_grow (ty := o.type) ht hu hdu hi hz hN (a := base) (sLen := len) (sCap := cap0) (olds := olds) hrd hg hc2 hc1
                refine wp_of_run (fin _ _ q3) (hn _ (m.addBlk b ⟨w.heap.size, bx.ver + news.length, i.size, bx.rows.length + news.length, cap, false⟩) _ k (EffOut.put ⟨w.heap.size, bx.ver + news.length, i.size, bx.rows.length + news.length, cap, false⟩ hin hidx hoth (Nat.le_refl _) (by simp) (fun b hb _ => heap_alloc_old w.drew _ b hb) (((Below.refl _ _).drew).alloc hin.hB _) (fun i' _ hi' => .inr (by rw [g2] at hi'; cases hi'; show inf.ver < bx.ver + news.length; have := hat.ver; omega)) ⟨rfl, rfl, by simp, hrowl, .inr ⟨rfl, _, e, heap_alloc_new w.drew _, ?_, by simp only; omega, q2, ?_⟩, hne⟩ (fun _ => .inl (Nat.le_refl _)) ?_))
                · simp [hz0, hN.len, hol, ← Nat.add_mul]
                  congr 1; omega
                · have hmk : MLe k m (m.addBlk b ⟨w.heap.size, bx.ver + news.length, i.size, bx.rows.length + news.length, cap, false⟩) := ⟨fun _ _ _ h => h, fun b' i' hb hi' => by
                    by_cases e : b' = b
                    · subst e; rw [g2] at hi'; cases hi'; exact ⟨_, Mem.addBlk_same _ _ _, .inr (by show inf.ver < bx.ver + news.length; have := hat.ver; omega)⟩
                    · exact ⟨i', by simpa [Mem.addBlk, e] using hi', .inl rfl⟩⟩
                  have := rows_splice (a := bx.rows.length) (fl := bx.flat) (rows := bx.rows) (cur := olds.toArray) (k' := k) (cur' := olds.toArray ++ cs.toArray ++ Builtin.zeroCells z.cells (cap - (len + news.length))) hR hN.r hmk (Nat.le_refl _) (Nat.le_refl _) (fun r hr => by rw [← hee]; exact hat.rowl r hr) (fun t ht => by
                      exact app_get1 (by rw [hol]; exact ht)) (fun s hs => by
                      rw [← hol]; exact app_get2 hs) (fun t h1 h2 => by omega)
                  rw [splice_end] at this
                  exact this
                · exact .own g1 (Mem.addBlk_same _ _ _) (by simp only; omega) rfl (fun _ => .inr ⟨rfl, cap, by simp, q1, by simp only; omega, by simp⟩)
              rcases hov with ⟨hz1, hz2, ad, hvs⟩ | ⟨hv, cap, hvs, q1, q2, q3⟩
              · have hr0 : bx.rows = [] := List.eq_nil_of_length_eq_zero (by omega)
                refine grow ad 0 [] (by rw [hvs, hz1]) (by omega) (by simp [hr0]) (fun w' _ => by rw [hvs, hz1]; cases ad <;> simp [Builtin.firstCells, loadCells, loadCellsFrom]) (fun r row j p hr => by simp [hr0] at hr)
              · rcases hat.mem with ⟨hv', _⟩ | ⟨_, cur, ty, m1, m2, m3, m4, m5⟩
                · rw [hv] at hv'; cases hv'
                · have hie : inf.e = i.size := by rw [hat.e, hee]
                  rw [hie] at m2
                  rw [hee] at m5
                  simp only [Nat.zero_mul] at hvs
                  by_cases hroom : len + news.length ≤ cap
                  · have hfit : 0 + len * i.size + cs.length ≤ cur.size := by
                      rw [m2, hN.len, Nat.zero_add, ← Nat.add_mul]
                      exact Nat.mul_le_mul_right _ (by omega)
                    have hrun := run_app_room (ty := o.type) (off := 0) ht hu hdu hi hN m1 hroom hfit
                    rw [← hvs] at hrun
                    simp only [Nat.zero_add] at hrun hfit
                    refine wp_of_run (fin _ _ hrun) (hn _ (m.addBlk b ⟨inf.g, bx.ver + news.length, i.size, bx.rows.length + news.length, inf.cap, false⟩) _ k (EffOut.put ⟨inf.g, bx.ver + news.length, i.size, bx.rows.length + news.length, inf.cap, false⟩ hin hidx hoth (Nat.le_refl _) (by simp) (fun b' _ hb' => setRow_other _ _ _ _ (hb' bx inf hbl g2 hv)) (below_setRow _ (hin.own.base b bx inf hbl g2 hv).1) (fun i' _ hi' => .inr (by rw [g2] at hi'; cases hi'; show inf.ver < bx.ver + news.length; have := hat.ver; omega)) ⟨rfl, rfl, by simp, hrowl, .inr ⟨rfl, _, ty, setRow_heap w _ cur _ ty _ m1, by rw [splice_size hfit]; exact m2, by simp only; omega, m4, ?_⟩, hne⟩ (fun _ => .inr ⟨bx, inf, hbl, g2, hv, rfl⟩) ?_))
                    · have hmk : MLe k m (m.addBlk b ⟨inf.g, bx.ver + news.length, i.size, bx.rows.length + news.length, inf.cap, false⟩) := ⟨fun _ _ _ h => h, fun b' i' hb hi' => by
                        by_cases e : b' = b
                        · subst e; rw [g2] at hi'; cases hi'; exact ⟨_, Mem.addBlk_same _ _ _, .inr (by show inf.ver < bx.ver + news.length; have := hat.ver; omega)⟩
                        · exact ⟨i', by simpa [Mem.addBlk, e] using hi', .inl rfl⟩⟩
                      have := rows_splice (a := bx.rows.length) (fl := bx.flat) (rows := bx.rows) (cur := cur) (k' := k) (cur' := (cur.toList.take (len * i.size) ++ cs ++ cur.toList.drop (len * i.size + cs.length)).toArray) m5 hN.r hmk (Nat.le_refl _) (Nat.le_refl _) (fun r hr => by rw [← hee]; exact hat.rowl r hr) (fun t ht => by
                          rw [splice_get hfit, if_pos (by rw [hlen]; exact ht)]) (fun s hs => by
                          rw [splice_get hfit, hlen, if_neg (by omega), if_pos (by omega), Nat.add_sub_cancel_left]) (fun t h1 h2 => by omega)
                      rw [splice_end] at this
                      exact this
                    · exact .own g1 (Mem.addBlk_same _ _ _) (by simp only; omega) rfl (fun _ => .inr ⟨rfl, cap, by simp, hroom, by simp only; omega, by simp only; omega⟩)
                  · have hlc : len * i.size ≤ cur.size := by rw [m2]; exact Nat.mul_le_mul_right _ (by omega)
                    refine grow (some ⟨inf.g, 0, none⟩) cap (cur.toList.take (len * i.size)) hvs (by omega) (by simp [hlen]; rw [← hlen]; omega) (fun w' hw' => ?_) (fun r row j p hr hj => ?_)
                    · rw [hvs]
                      refine run_firstCells_some w' i.size len ⟨inf.g, 0, none⟩ len cap _ (by simp; omega) (fun j v hj => ?_)
                      rw [Addr.add_lit, Nat.zero_add, hw']
                      rw [List.getElem?_take] at hj
                      split at hj
                      · simpa [World.cell?, m1] using hj
                      · cases hj
                    · obtain ⟨v, h1, h2, h3⟩ := m5 r row j p hr hj
                      refine ⟨v, ?_, h2, h3⟩
                      have hrl : row.length = i.size := by rw [← hee]; exact hat.rowl row (List.mem_of_getElem? hr)
                      have hjl := (List.getElem?_eq_some_iff.1 hj).1
                      have hrlt := (List.getElem?_eq_some_iff.1 hr).1
                      have h5 : (r + 1) * i.size ≤ len * i.size := Nat.mul_le_mul_right _ (by omega)
                      rw [Nat.add_mul] at h5
                      rw [List.getElem?_toArray, List.getElem?_take_of_lt (by omega)]
                      simpa using h1
          · split at he
            · rename_i hc
              obtain ⟨hee, hc1⟩ := hc
              cases he
              have hidx : (bl.set b (some (⟨bx.ver, i.size, bx.flat && news.all (PV.lt.ltL 0), bx.rows.take (lo + len) ++ news ++ bx.rows.drop (lo + len + news.length)⟩ : Blk)))[b]? = some (some ⟨bx.ver, i.size, bx.flat && news.all (PV.lt.ltL 0), bx.rows.take (lo + len) ++ news ++ bx.rows.drop (lo + len + news.length)⟩) := List.getElem?_set_self hblt
              have hoth : ∀ j, j ≠ b → (bl.set b (some (⟨bx.ver, i.size, bx.flat && news.all (PV.lt.ltL 0), bx.rows.take (lo + len) ++ news ++ bx.rows.drop (lo + len + news.length)⟩ : Blk)))[j]? = bl[j]? := fun j hj => List.getElem?_set_ne (fun e => hj e.symm)
              have hrowl : ∀ r ∈ bx.rows.take (lo + len) ++ news ++ bx.rows.drop (lo + len + news.length), r.length = i.size := fun r hr => by
                rcases List.mem_append.1 hr with hr | hr
                · rcases List.mem_append.1 hr with hr | hr
                  · rw [← hee]; exact hat.rowl r (List.mem_of_mem_take hr)
                  · exact hN.rowl r hr
                · rw [← hee]; exact hat.rowl r (List.mem_of_mem_drop hr)
              have hcount : (bx.rows.take (lo + len) ++ news ++ bx.rows.drop (lo + len + news.length)).length = bx.rows.length := by simp; omega
              have hmk : MLe k m (m.addBlk b inf) := ⟨fun _ _ _ h => h, fun b' i' hb hi' => by
                by_cases e : b' = b
                · subst e; rw [g2] at hi'; cases hi'; exact ⟨_, Mem.addBlk_same _ _ _, .inl rfl⟩
                · exact ⟨i', by simpa [Mem.addBlk, e] using hi', .inl rfl⟩⟩
              by_cases hn0 : news = []
              · subst hn0
                have hstay : (Builtin.append_ #[t, u] o.type #[vs, vx]).run P w = .ok vs w := by
                  rcases hov with ⟨hz1, _, ad, rfl⟩ | ⟨hv, cap, rfl, q1, q2, q3⟩
                  · exact run_app_none ht hu hdu hi hN (by omega)
                  · exact run_app_none ht hu hdu hi hN q1
                have hsame : bx.rows.take (lo + len) ++ ([] : List (List PV)) ++ bx.rows.drop (lo + len + ([] : List (List PV)).length) = bx.rows := by simp
                refine wp_of_run (fin _ _ hstay) (hn _ (m.addBlk b inf) _ k (EffOut.put inf hin hidx hoth (Nat.le_refl _) (by simp) (fun _ _ _ => rfl) (Below.refl _ _) (fun i' _ hi' => .inl (by rw [g2] at hi'; cases hi'; rfl)) ⟨hat.ver, by rw [hat.e, hee], by rw [hat.n, hcount], hrowl, ?_, hne⟩ (fun hv => .inr ⟨bx, inf, hbl, g2, hv, rfl⟩) ?_))
                · have := (hat.mono hmk (Nat.le_refl _) (fun _ => rfl)).mem
                  rw [hsame]
                  simpa [hee] using this
                · exact .own g1 (Mem.addBlk_same _ _ _) g3 g4 (fun _ => by simpa using hov)
              · have hnl : 0 < news.length := List.length_pos_iff.2 hn0
                rcases hov with ⟨hz1, hz2, ad, hvs⟩ | ⟨hv, cap, hvs, q1, q2, q3⟩
                · have := hat.n; omega
                · rcases hat.mem with ⟨hv', _⟩ | ⟨_, cur, ty, m1, m2, m3, m4, m5⟩
                  · rw [hv] at hv'; cases hv'
                  · have hie : inf.e = i.size := by rw [hat.e, hee]
                    rw [hie] at m2 hvs
                    rw [hee] at m5
                    have hinn := hat.n
                    have hfit : lo * i.size + len * i.size + cs.length ≤ cur.size := by
                      rw [m2, hN.len, ← Nat.add_mul, ← Nat.add_mul]
                      exact Nat.mul_le_mul_right _ (by omega)
                    have hrun := run_app_room (ty := o.type) (off := lo * i.size) (sLen := len) (sCap := cap) ht hu hdu hi hN m1 (by omega) hfit
                    rw [← hvs] at hrun
                    rw [← Nat.add_mul] at hrun hfit
                    refine wp_of_run (fin _ _ hrun) (hn _ (m.addBlk b inf) _ k (EffOut.put inf hin hidx hoth (Nat.le_refl _) (by simp) (fun b' _ hb' => setRow_other _ _ _ _ (hb' bx inf hbl g2 hv)) (below_setRow _ (hin.own.base b bx inf hbl g2 hv).1) (fun i' _ hi' => .inl (by rw [g2] at hi'; cases hi'; rfl)) ⟨hat.ver, hie, by rw [hat.n, hcount], hrowl, .inr ⟨hv, _, ty, setRow_heap w _ cur _ ty _ m1, by rw [splice_size hfit, hie]; exact m2, m3, m4, ?_⟩, hne⟩ (fun _ => .inr ⟨bx, inf, hbl, g2, hv, rfl⟩) ?_))
                    · exact rows_splice (e := i.size) (a := lo + len) (fl := bx.flat) m5 hN.r hmk (Nat.le_refl _) (by omega) (fun r hr => by rw [← hee]; exact hat.rowl r hr) (fun t ht => by
                          rw [splice_get hfit, if_pos ht]) (fun s hs => by
                          rw [splice_get hfit, if_neg (by omega), if_pos (by omega), Nat.add_sub_cancel_left]) (fun t h1 h2 => by
                          rw [splice_get hfit, if_neg (by omega), if_neg (by omega)])
                    · exact .own g1 (Mem.addBlk_same _ _ _) g3 rfl (fun _ => .inr ⟨hv, cap, by rw [hie], by omega, q2, q3⟩)
            · cases he
        · cases he
      · cases he
    · cases he
  · cases hd

theorem digCopy_spec {args : List AO} {tys : List TypeId} {ao : AOp} (h : digBuiltin P .copy args tys = some ao) :
    ∃ s x t u e i, args = [s, x] ∧ tys = [t, u] ∧ P.underlying t = some (.slice e) ∧ P.info? e = some i ∧ 0 < i.size ∧ ao = .copy i.size s x := by
  have key : ∃ s x t u, args = [s, x] ∧ tys = [t, u] := by
    rcases args with _ | ⟨s, _ | ⟨x, _ | ⟨y, r⟩⟩⟩ <;> rcases tys with _ | ⟨t, _ | ⟨u, _ | ⟨v, q⟩⟩⟩ <;> first
      | exact ⟨_, _, _, _, rfl, rfl⟩
      | (simp [digBuiltin] at h; done)
  obtain ⟨s, x, t, u, rfl, rfl⟩ := key
  simp only [digBuiltin] at h
  split at h
  · rename_i e i hel
    obtain ⟨h1, h2⟩ := elemP_spec hel
    split at h
    · cases h
      exact ⟨s, x, t, u, e, i, rfl, rfl, h1, h2, by assumption, rfl⟩
    · cases h
  · cases h

theorem eff_copy {c : Call} (h : o.op = .call c) (hcal : c.callee = .builtin .copy) : EffSound P call own o := by
  intro ao B k m w sl bl bl' a p next Q hd he hl hin hn
  simp only [digOp, h, hcal] at hd
  split at hd
  · rename_i args ha
    obtain ⟨d, s, t, u, e, i, rfl, hty, ht, hi, hpos, rfl⟩ := digCopy_spec hd
    obtain ⟨vs, vx, hargs, rs, rx⟩ := two_args hcal h ha hl
    have htys : c.argTypes = #[t, u] := by rw [← Array.toArray_toList (xs := c.argTypes), hty]
    have hex := exec_builtin (a := a) hcal h
    rw [htys, hargs] at hex
    simp only [evEff] at he
    split at he
    · rename_i b ver lo len news hs hnews
      obtain ⟨cs, hN⟩ := news_read (P := P) hin.pur hpos hnews rx
      rw [hs] at rs
      obtain ⟨inf, g1, g2, g3, g4, g5⟩ := own_inv rs
      split at he
      · rename_i bx hgb
        obtain ⟨hat, hver⟩ := blk_of hin.pur hgb g2
        obtain ⟨hbl, hverb⟩ := getB_spec hgb
        have hblt : b < bl.length := (List.getElem?_eq_some_iff.1 hbl).1
        have hov := g5 hver
        split at he
        · rename_i hc
          obtain ⟨hc1, hee⟩ := hc
          cases he
          have hnn : Nat.min news.length len ≤ news.length := Nat.min_le_left _ _
          have hnl : Nat.min news.length len ≤ len := Nat.min_le_right _ _
          generalize hn0 : Nat.min news.length len = n at hnn hnl hn ⊢
          have hT := hN.take n hnn
          have htl : (news.take n).length = n := by simp; omega
          have hidx : (bl.set b (some (⟨bx.ver, bx.e, bx.flat && news.all (PV.lt.ltL 0), bx.rows.take lo ++ news.take n ++ bx.rows.drop (lo + n)⟩ : Blk)))[b]? = some (some ⟨bx.ver, bx.e, bx.flat && news.all (PV.lt.ltL 0), bx.rows.take lo ++ news.take n ++ bx.rows.drop (lo + n)⟩) := List.getElem?_set_self hblt
          have hoth : ∀ j, j ≠ b → (bl.set b (some (⟨bx.ver, bx.e, bx.flat && news.all (PV.lt.ltL 0), bx.rows.take lo ++ news.take n ++ bx.rows.drop (lo + n)⟩ : Blk)))[j]? = bl[j]? := fun j hj => List.getElem?_set_ne (fun e => hj e.symm)
          have hrowl : ∀ r ∈ bx.rows.take lo ++ news.take n ++ bx.rows.drop (lo + n), r.length = bx.e := fun r hr => by
            rcases List.mem_append.1 hr with hr | hr
            · rcases List.mem_append.1 hr with hr | hr
              · exact hat.rowl r (List.mem_of_mem_take hr)
              · rw [hee]; exact hN.rowl r (List.mem_of_mem_take hr)
            · exact hat.rowl r (List.mem_of_mem_drop hr)
          have hcount : (bx.rows.take lo ++ news.take n ++ bx.rows.drop (lo + n)).length = bx.rows.length := by simp; omega
          have hmk : MLe k m (m.addBlk b inf) := ⟨fun _ _ _ h => h, fun b' i' hb hi' => by
            by_cases e : b' = b
            · subst e; rw [g2] at hi'; cases hi'; exact ⟨_, Mem.addBlk_same _ _ _, .inl rfl⟩
            · exact ⟨i', by simpa [Mem.addBlk, e] using hi', .inl rfl⟩⟩
          have hszr : (sizeOf e).run P w = .ok i.size w := by simp [sizeOf, typeInfo, hi]
          have hfc := hN.first n hnn w (fun _ _ => rfl)
          have stay : n = 0 → (∃ a0 c0, vs = .slice a0 len c0) → (execOp a.eval o).run P w = .ok (.value (.int .i64 n)) w := by
            rintro hz ⟨a0, c0, rfl⟩
            subst hz
            rw [hex]
            simp only [Nat.zero_mul, List.take_zero] at hfc
            cases a0 <;> simp [builtin, Builtin.copy_, run_underlying ht, hN.lenOf, hn0, hszr, hfc, storeCells, goInt]
          by_cases hz : n = 0
          · have hsame : bx.rows.take lo ++ news.take n ++ bx.rows.drop (lo + n) = bx.rows := by rw [hz]; simp
            have hvs : ∃ a0 c0, vs = .slice a0 len c0 := by
              rcases hov with ⟨hz1, _, ad, rfl⟩ | ⟨hv, cap, rfl, _⟩
              · exact ⟨ad, 0, by rw [hz1]⟩
              · exact ⟨_, _, rfl⟩
            refine wp_of_run (stay hz hvs) (hn _ (m.addBlk b inf) _ k (EffOut.put inf hin hidx hoth (Nat.le_refl _) (by simp) (fun _ _ _ => rfl) (Below.refl _ _) (fun i' _ hi' => .inl (by rw [g2] at hi'; cases hi'; rfl)) ⟨hat.ver, hat.e, by rw [hat.n, hcount], hrowl, ?_, hat.ne⟩ (fun hv => .inr ⟨bx, inf, hbl, g2, hv, rfl⟩) .int))
            have hmem := (hat.mono hmk (Nat.le_refl _) (fun _ => rfl)).mem
            rw [hsame]
            rcases hmem with hm | ⟨hv, cur, ty, a1, a2, a3, a4, a5⟩
            · exact .inl hm
            · refine .inr ⟨hv, cur, ty, a1, a2, a3, a4, ?_⟩
              cases hfl : bx.flat
              · rw [hfl] at a5; simpa using a5
              · rw [hfl] at a5
                simp only [if_true] at a5
                simp only [Bool.true_and]
                split
                · exact a5
                · exact a5.mono (MLe.refl _ _) (Nat.zero_le _)
          · rcases hov with ⟨hz1, hz2, ad, hvs⟩ | ⟨hv, cap, hvs, q1, q2, q3⟩
            · omega
            · rcases hat.mem with ⟨hv', _⟩ | ⟨_, cur, ty, m1, m2, m3, m4, m5⟩
              · rw [hv] at hv'; cases hv'
              · have hie : inf.e = i.size := by rw [hat.e, hee]
                have hinn := hat.n
                rw [hie] at m2 hvs
                rw [hee] at m5
                have hcl : (cs.take (n * i.size)).length = n * i.size := by rw [hT.len, htl]
                have hfit : lo * i.size + (cs.take (n * i.size)).length ≤ cur.size := by
                  rw [hcl, m2, ← Nat.add_mul]
                  exact Nat.mul_le_mul_right _ (by omega)
                have hst := run_storeCells_at P inf.g (lo * i.size) ty (cs.take (n * i.size)) 0 cur w m1 (by simpa using hfit) hT.one
                simp only [Nat.add_zero] at hst
                have hrun : (execOp a.eval o).run P w = .ok (.value (.int .i64 n)) (w.setRow inf.g (cur.toList.take (lo * i.size) ++ cs.take (n * i.size) ++ cur.toList.drop (lo * i.size + (cs.take (n * i.size)).length)).toArray) := by
                  rw [hex, hvs]
                  simp [builtin, Builtin.copy_, run_underlying ht, hN.lenOf, hn0, hszr, hfc, hst, goInt]
                refine wp_of_run hrun (hn _ (m.addBlk b inf) _ k (EffOut.put inf hin hidx hoth (Nat.le_refl _) (by simp) (fun b' _ hb' => setRow_other _ _ _ _ (hb' bx inf hbl g2 hv)) (below_setRow _ (hin.own.base b bx inf hbl g2 hv).1) (fun i' _ hi' => .inl (by rw [g2] at hi'; cases hi'; rfl)) ⟨hat.ver, hat.e, by rw [hat.n, hcount], hrowl, .inr ⟨hv, _, ty, setRow_heap w _ cur _ ty _ m1, by rw [splice_size hfit, hie]; exact m2, m3, m4, ?_⟩, hat.ne⟩ (fun _ => .inr ⟨bx, inf, hbl, g2, hv, rfl⟩) .int))
                have hsp := rows_splice (e := i.size) (a := lo) (fl := bx.flat) (k' := k) (cur' := (cur.toList.take (lo * i.size) ++ cs.take (n * i.size) ++ cur.toList.drop (lo * i.size + (cs.take (n * i.size)).length)).toArray) m5 hT hmk (Nat.le_refl _) (by omega) (fun r hr => by rw [← hee]; exact hat.rowl r hr) (fun t ht => by
                    rw [splice_get hfit, if_pos ht]) (fun s hs => by
                    rw [splice_get hfit, if_neg (by omega), if_pos (by omega), Nat.add_sub_cancel_left]) (fun t h1 h2 => by
                    rw [splice_get hfit, if_neg (by omega), if_neg (by omega)])
                rw [htl] at hsp
                rw [hee]
                cases hfl : bx.flat && news.all (PV.lt.ltL 0)
                · simp only [Bool.false_eq_true, if_false]
                  split at hsp
                  · exact hsp.mono (MLe.refl _ _) (Nat.zero_le _)
                  · exact hsp
                · simp only [if_true]
                  simp only [Bool.and_eq_true] at hfl
                  have : (bx.flat && (news.take n).all (PV.lt.ltL 0)) = true := by
                    simp only [Bool.and_eq_true]
                    refine ⟨hfl.1, ?_⟩
                    rw [List.all_eq_true]
                    intro r hr
                    exact List.all_eq_true.1 hfl.2 r (List.mem_of_mem_take hr)
                  rw [this] at hsp
                  exact hsp
        · cases he
      · cases he
    · cases he
  · cases hd

theorem digClr_spec {args : List AO} {tys : List TypeId} {ao : AOp} (h : digBuiltin P .clear args tys = some ao) :
    ∃ s t e i z, args = [s] ∧ tys = [t] ∧ P.underlying t = some (.slice e) ∧ P.info? e = some i ∧ 0 < i.size ∧ zeroP P e = some z ∧ ao = .clr i.size z s := by
  have key : ∃ s t, args = [s] ∧ tys = [t] := by
    rcases args with _ | ⟨s, _ | ⟨x, r⟩⟩ <;> rcases tys with _ | ⟨t, _ | ⟨u, q⟩⟩ <;> first
      | exact ⟨_, _, rfl, rfl⟩
      | (simp [digBuiltin] at h; done)
  obtain ⟨s, t, rfl, rfl⟩ := key
  simp only [digBuiltin] at h
  split at h
  · rename_i e i hel
    obtain ⟨h1, h2⟩ := elemP_spec hel
    split at h
    · split at h
      · rename_i z hz
        cases h
        exact ⟨s, t, e, i, z, rfl, rfl, h1, h2, by assumption, hz, rfl⟩
      · cases h
    · cases h
  · cases h
theorem one_arg {m : Mem} {k : Nat} {sl : List PV} {a : Act} {c : Call} {b : Builtin} (hcal : c.callee = .builtin b) (h : o.op = .call c) {s : AO} (ha : digL c.args.toList = some [s])
    (hl : ∀ t, Operand.tmp t ∈ o.op.operands → Rep m k (sl.getD t .top) (a.tmps.getD t undef)) : ∃ vs, c.args.map a.eval = #[vs] ∧ Rep m k (s.ev sl) vs := by
  obtain ⟨h1, h2⟩ := opds (m := m) (k := k) (sl := sl) (a := a) c.args.toList _ (fun t ht => hl t (call_ops hcal h t ht)) ha
  have hlen : c.args.toList.length = 1 := by simpa using h1.symm
  obtain ⟨o1, hoo⟩ : ∃ o1, c.args.toList = [o1] := by
    cases hq : c.args.toList with
    | nil => rw [hq] at hlen; simp at hlen
    | cons o1 r => cases r with
      | nil => exact ⟨o1, rfl⟩
      | cons o2 r => rw [hq] at hlen; simp at hlen
  have hargs : c.args = #[o1] := by rw [← Array.toArray_toList (xs := c.args), hoo]
  rw [hoo] at h2
  exact ⟨a.eval o1, by rw [hargs]; simp, by simpa using h2 0 _ rfl⟩
theorem zero_news {m : Mem} {k n : Nat} {zv : Value} (he : 0 < zv.cells.size) (hleaf : (zv.cells.toList.map ofVal).all PV.leaf = true) :
    NewsR m k zv.cells.size (List.replicate n (zv.cells.toList.map ofVal)) (Builtin.zeroCells zv.cells n).toList := by
  have hzl : (zv.cells.toList.map ofVal).length = zv.cells.size := by simp
  have e4 : Builtin.zeroCells zv.cells n = repCells zv (n * zv.cells.size) := rfl
  refine ⟨by simp [size_zeroCells], fun u hu => ?_, fun i row j q hr hj => ?_⟩
  · obtain ⟨t, ht, hut⟩ := List.getElem_of_mem hu
    have ht' : t < n * zv.cells.size := by simpa [size_zeroCells] using ht
    have hg : (Builtin.zeroCells zv.cells n).toList[t]? = some u := by rw [List.getElem?_eq_getElem ht, hut]
    rw [Array.getElem?_toList, e4, repCells_get ht' he] at hg
    have hm : t % zv.cells.size < zv.cells.size := Nat.mod_lt _ he
    have hj : (zv.cells.toList.map ofVal)[t % zv.cells.size]? = some (ofVal zv.cells[t % zv.cells.size]) := by simp [hm]
    obtain ⟨v, h1, h2, _⟩ := zero_cells (m := m) hleaf hj
    rw [h1] at hg
    rw [← Option.some.inj hg]
    exact h2
  · have hr' := (List.getElem?_eq_some_iff.1 hr).1
    simp at hr'
    have hrow : row = zv.cells.toList.map ofVal := List.eq_of_mem_replicate (List.mem_of_getElem? hr)
    subst hrow
    have hj' := (List.getElem?_eq_some_iff.1 hj).1
    rw [hzl] at hj'
    have hin2 : i * zv.cells.size + j < n * zv.cells.size := by
      have : (i + 1) * zv.cells.size ≤ n * zv.cells.size := Nat.mul_le_mul_right _ (by omega)
      rw [Nat.add_mul] at this
      omega
    rw [Array.getElem?_toList, e4, repCells_get hin2 he, Nat.mul_comm, Nat.mul_add_mod, Nat.mod_eq_of_lt (by omega)]
    obtain ⟨v, h1, _, h3⟩ := zero_cells (m := m) hleaf hj
    exact ⟨v, h1, h3.up (Nat.zero_le _)⟩
set_option maxHeartbeats 1000000 in
theorem eff_clear {c : Call} (h : o.op = .call c) (hcal : c.callee = .builtin .clear) : EffSound P call own o := by
  intro ao B k m w sl bl bl' a p next Q hd he hl hin hn
  simp only [digOp, h, hcal] at hd
  split at hd
  · rename_i args ha
    obtain ⟨d, t, e, i, z, rfl, hty, ht, hi, hpos, hz, rfl⟩ := digClr_spec hd
    obtain ⟨i', zv, hi', hzv, rfl, hsz, hleaf, hlt⟩ := zeroP_spec hz
    rw [hi] at hi'
    cases hi'
    obtain ⟨vs, hargs, rs⟩ := one_arg hcal h ha hl
    have htys : c.argTypes = #[t] := by rw [← Array.toArray_toList (xs := c.argTypes), hty]
    have hex := exec_builtin (a := a) hcal h
    rw [htys, hargs] at hex
    simp only [evEff] at he
    split at he
    · rename_i b ver lo len hs
      rw [hs] at rs
      obtain ⟨inf, g1, g2, g3, g4, g5⟩ := own_inv rs
      split at he
      · rename_i bx hgb
        obtain ⟨hat, hver⟩ := blk_of hin.pur hgb g2
        obtain ⟨hbl, hverb⟩ := getB_spec hgb
        have hblt : b < bl.length := (List.getElem?_eq_some_iff.1 hbl).1
        have hov := g5 hver
        split at he
        · rename_i hc
          obtain ⟨hc1, hee⟩ := hc
          have hall : (List.replicate len (zv.cells.toList.map ofVal)).all (PV.lt.ltL 0) = true := by
            rw [List.all_eq_true]
            intro r hr
            rw [List.eq_of_mem_replicate hr]
            exact hlt
          have hfa : PV.lt.ltL 0 (zv.cells.toList.map ofVal) = (List.replicate len (zv.cells.toList.map ofVal)).all (PV.lt.ltL 0) := by rw [hlt, hall]
          rw [hfa] at he
          have hT : NewsR m k i.size (List.replicate len (zv.cells.toList.map ofVal)) (Builtin.zeroCells zv.cells len).toList := by
            rw [← hsz]; exact zero_news (by omega) hleaf
          have hnl : (List.replicate len (zv.cells.toList.map ofVal)).length = len := by simp
          have hnr : ∀ r ∈ List.replicate len (zv.cells.toList.map ofVal), r.length = i.size := fun r hr => by rw [List.eq_of_mem_replicate hr]; simpa using hsz
          generalize hN0 : List.replicate len (zv.cells.toList.map ofVal) = news at *
          generalize hC0 : (Builtin.zeroCells zv.cells len).toList = cs at *
          cases he
          have hidx : (bl.set b (some (⟨bx.ver, bx.e, bx.flat && news.all (PV.lt.ltL 0), bx.rows.take lo ++ news ++ bx.rows.drop (lo + len)⟩ : Blk)))[b]? = some (some ⟨bx.ver, bx.e, bx.flat && news.all (PV.lt.ltL 0), bx.rows.take lo ++ news ++ bx.rows.drop (lo + len)⟩) := List.getElem?_set_self hblt
          have hoth : ∀ j, j ≠ b → (bl.set b (some (⟨bx.ver, bx.e, bx.flat && news.all (PV.lt.ltL 0), bx.rows.take lo ++ news ++ bx.rows.drop (lo + len)⟩ : Blk)))[j]? = bl[j]? := fun j hj => List.getElem?_set_ne (fun e => hj e.symm)
          have hrowl : ∀ r ∈ bx.rows.take lo ++ news ++ bx.rows.drop (lo + len), r.length = bx.e := fun r hr => by
            rcases List.mem_append.1 hr with hr | hr
            · rcases List.mem_append.1 hr with hr | hr
              · exact hat.rowl r (List.mem_of_mem_take hr)
              · rw [hee]; exact hnr r hr
            · exact hat.rowl r (List.mem_of_mem_drop hr)
          have hcount : (bx.rows.take lo ++ news ++ bx.rows.drop (lo + len)).length = bx.rows.length := by simp; omega
          have hmk : MLe k m (m.addBlk b inf) := ⟨fun _ _ _ h => h, fun b' i' hb hi' => by
            by_cases e : b' = b
            · subst e; rw [g2] at hi'; cases hi'; exact ⟨_, Mem.addBlk_same _ _ _, .inl rfl⟩
            · exact ⟨i', by simpa [Mem.addBlk, e] using hi', .inl rfl⟩⟩
          by_cases hz0 : len = 0
          · subst hz0
            have hnn : news = [] := List.length_eq_zero_iff.1 hnl
            have hsame : bx.rows.take lo ++ news ++ bx.rows.drop (lo + 0) = bx.rows := by rw [hnn]; simp
            have hvs : ∃ a0 c0, vs = .slice a0 0 c0 := by
              rcases hov with ⟨hz1, _, ad, rfl⟩ | ⟨hv, cap, rfl, _⟩
              · exact ⟨ad, 0, rfl⟩
              · exact ⟨_, _, rfl⟩
            have stay : (execOp a.eval o).run P w = .ok (.value (.tuple #[])) w := by
              obtain ⟨a0, c0, rfl⟩ := hvs
              rw [hex]
              cases a0 <;> simp [builtin, Builtin.clear_, run_underlying ht]
            refine wp_of_run stay (hn _ (m.addBlk b inf) _ k (EffOut.put inf hin hidx hoth (Nat.le_refl _) (by simp) (fun _ _ _ => rfl) (Below.refl _ _) (fun i' _ hi' => .inl (by rw [g2] at hi'; cases hi'; rfl)) ⟨hat.ver, hat.e, by rw [hat.n, hcount], hrowl, ?_, hat.ne⟩ (fun hv => .inr ⟨bx, inf, hbl, g2, hv, rfl⟩) .top))
            have hmem := (hat.mono hmk (Nat.le_refl _) (fun _ => rfl)).mem
            rw [hsame]
            rcases hmem with hm | ⟨hv, cur, ty, a1, a2, a3, a4, a5⟩
            · exact .inl hm
            · refine .inr ⟨hv, cur, ty, a1, a2, a3, a4, ?_⟩
              cases hfl : bx.flat
              · rw [hfl] at a5; simpa using a5
              · rw [hfl] at a5
                simp only [if_true] at a5
                simp only [Bool.true_and]
                split
                · exact a5
                · exact a5.mono (MLe.refl _ _) (Nat.zero_le _)
          · rcases hov with ⟨hz1, hz2, ad, hvs⟩ | ⟨hv, cap, hvs, q1, q2, q3⟩
            · omega
            · rcases hat.mem with ⟨hv', _⟩ | ⟨_, cur, ty, m1, m2, m3, m4, m5⟩
              · rw [hv] at hv'; cases hv'
              · have hie : inf.e = i.size := by rw [hat.e, hee]
                have hinn := hat.n
                rw [hie] at m2 hvs
                rw [hee] at m5
                have hcl : cs.length = len * i.size := by rw [hT.len, hnl]
                have hfit : lo * i.size + cs.length ≤ cur.size := by
                  rw [hcl, m2, ← Nat.add_mul]
                  exact Nat.mul_le_mul_right _ (by omega)
                have hst := run_storeCells_at P inf.g (lo * i.size) ty cs 0 cur w m1 (by simpa using hfit) hT.one
                simp only [Nat.add_zero] at hst
                have hrun : (execOp a.eval o).run P w = .ok (.value (.tuple #[])) (w.setRow inf.g (cur.toList.take (lo * i.size) ++ cs ++ cur.toList.drop (lo * i.size + cs.length)).toArray) := by
                  rw [hex, hvs]
                  obtain ⟨q, rfl⟩ : ∃ q, len = q + 1 := ⟨len - 1, by omega⟩
                  simp [builtin, Builtin.clear_, run_underlying ht, zeroValue, typeInfo, hi, hzv, hC0, hst]
                refine wp_of_run hrun (hn _ (m.addBlk b inf) _ k (EffOut.put inf hin hidx hoth (Nat.le_refl _) (by simp) (fun b' _ hb' => setRow_other _ _ _ _ (hb' bx inf hbl g2 hv)) (below_setRow _ (hin.own.base b bx inf hbl g2 hv).1) (fun i' _ hi' => .inl (by rw [g2] at hi'; cases hi'; rfl)) ⟨hat.ver, hat.e, by rw [hat.n, hcount], hrowl, .inr ⟨hv, _, ty, setRow_heap w _ cur _ ty _ m1, by rw [splice_size hfit, hie]; exact m2, m3, m4, ?_⟩, hat.ne⟩ (fun _ => .inr ⟨bx, inf, hbl, g2, hv, rfl⟩) .top))
                have hsp := rows_splice (e := i.size) (a := lo) (fl := bx.flat) (k' := k) (cur' := (cur.toList.take (lo * i.size) ++ cs ++ cur.toList.drop (lo * i.size + cs.length)).toArray) m5 hT hmk (Nat.le_refl _) (by omega) (fun r hr => by rw [← hee]; exact hat.rowl r hr) (fun t ht => by
                    rw [splice_get hfit, if_pos ht]) (fun s hs => by
                    rw [splice_get hfit, if_neg (by omega), if_pos (by omega), Nat.add_sub_cancel_left]) (fun t h1 h2 => by
                    rw [splice_get hfit, if_neg (by omega), if_neg (by omega)])
                rw [hnl] at hsp
                rw [hee]
                exact hsp
        · cases he
      · cases he
    · cases he
  · cases hd

/-- a call upon the caller's blocks -/
theorem eff_call (hc : CallOk P call) {c : Call} {g : Nat} (h : o.op = .call c) (hcal : c.callee = .value (.func g)) : EffSound P call own o := by
  intro ao B k m w sl bl bl' a p next Q hd he hl hin hn
  simp only [digOp, h, hcal] at hd
  have hopt : ∀ t, Operand.tmp t ∈ c.args.toList → Operand.tmp t ∈ o.op.operands := fun t ht => by
    rw [h]; simp only [Op.operands, Call.operands, hcal]
    simp only [Array.mem_append]
    exact .inr (by simpa using ht)
  split at hd
  · rename_i args ha
    obtain ⟨h1, h2⟩ := opds (m := m) (k := k) (sl := sl) (a := a) c.args.toList args (fun t ht => hl t (hopt t ht)) ha
    have hget : ∀ (i : Nat), (c.args.map a.eval).getD i undef = (c.args.toList.map a.eval).getD i undef := fun i => by rw [getD_toList]; simp
    have hsz : (args.map (·.ev sl)).length = (c.args.map a.eval).size := by simp [h1]
    simp only [digCall] at hd
    split at hd
    · cases hd
      simp only [evEff] at he
      split at he
      · rename_i p0 bl0 hs
        split at he
        · cases he
          obtain ⟨hfn, hcall⟩ := hc.2 _ _ _ _ _ hs
          refine upon_calls (exec_value (caps := #[]) hcal h rfl hfn) ?_
          rw [Array.append_empty]
          refine (hcall B k m w (c.args.map a.eval) hsz (fun i p hp => by rw [hget]; exact h2 i p hp) hin).mono ?_
          rintro e w' ⟨v, m', k', he, hout⟩
          exact ⟨v, he, hn v m' w' k' hout⟩
        · cases he
      · cases he
    · cases hd
      simp [evEff] at he
  · cases hd

/-- a call of a function value upon the caller's blocks -/
theorem eff_calld (hc : CallOk P call) {c : Call} {t : Nat} (h : o.op = .call c) (hcal : c.callee = .value (.tmp t)) : EffSound P call own o := by
  intro ao B k m w sl bl bl' a p next Q hd he hl hin hn
  simp only [digOp, h, hcal] at hd
  have hopt : ∀ t, Operand.tmp t ∈ c.args.toList → Operand.tmp t ∈ o.op.operands := fun t ht => by
    rw [h]; simp only [Op.operands, Call.operands, hcal]
    simp only [Array.mem_append]
    exact .inr (by simpa using ht)
  split at hd
  · rename_i args ha
    obtain ⟨h1, h2⟩ := opds (m := m) (k := k) (sl := sl) (a := a) c.args.toList args (fun t ht => hl t (hopt t ht)) ha
    have hget : ∀ (i : Nat), (c.args.map a.eval).getD i undef = (c.args.toList.map a.eval).getD i undef := fun i => by rw [getD_toList]; simp
    have hsz : (args.map (·.ev sl)).length = (c.args.map a.eval).size := by simp [h1]
    have rf : Rep m k (sl.getD t .top) (a.eval (.tmp t)) := hl t (by rw [h]; simp [Op.operands, Call.operands, hcal])
    simp only [digCall] at hd
    split at hd
    · cases hd
      simp only [evEff, AO.ev] at he
      split at he
      · rename_i g caps hfv
        rw [hfv] at rf
        obtain ⟨vs, e1, e2, e3⟩ := fn_inv rf
        split at he
        · rename_i p0 bl0 hs
          split at he
          · cases he
            obtain ⟨hfn, hcall⟩ := hc.2 _ _ _ _ _ hs
            refine upon_calls (exec_value (caps := vs) hcal h e1 hfn) ?_
            refine (hcall B k m w (c.args.map a.eval ++ vs) (by simp [h1, e2]) (fun i p hp => by
              by_cases hi : i < args.length
              · rw [List.getElem?_append_left (by simpa using hi)] at hp
                have := h2 i p hp
                rw [← hget] at this
                rw [Array.getD_eq_getD_getElem?] at this ⊢
                rw [Array.getElem?_append_left (by rw [← hsz]; simpa using hi)]
                exact this
              · rw [List.getElem?_append_right (by simpa using Nat.le_of_not_lt hi)] at hp
                have := e3 _ p hp
                rw [Array.getD_eq_getD_getElem?] at this ⊢
                rw [Array.getElem?_append_right (by rw [← hsz]; simpa using Nat.le_of_not_lt hi), ← hsz]
                exact this) hin).mono ?_
            rintro e w' ⟨v, m', k', he, hout⟩
            exact ⟨v, he, hn v m' w' k' hout⟩
          · cases he
        · cases he
      · cases he
    · cases hd
      simp [evEff] at he
  · cases hd

theorem digArr_eff {t : TypeId} {z : List PV} {ao : AOp} (h : digArr P t z = some ao) : ao.isEff = false := by
  unfold digArr at h
  split at h
  · split at h
    · split at h
      · cases h; rfl
      · cases h
    · cases h
  · cases h

/-- every operation that changes a block does what its pure reading says -/
theorem eff_sound (hc : CallOk P call) (o : Oper) : EffSound P call own o := by
  intro ao B k m w sl bl bl' a p next Q hd he hl hin hn
  have hcases : (∃ t x y, o.op = .store t x y) ∨ (∃ c, o.op = .call c ∧ c.callee = .builtin .append) ∨ (∃ c, o.op = .call c ∧ c.callee = .builtin .copy) ∨ (∃ c, o.op = .call c ∧ c.callee = .builtin .clear) ∨ (∃ c g, o.op = .call c ∧ c.callee = .value (.func g)) ∨ (∃ c t, o.op = .call c ∧ c.callee = .value (.tmp t)) ∨ (∃ t x y z, o.op = .mapUpdate t x y z ∨ o.op = .insert t x y z) ∨ (∃ c, o.op = .call c ∧ c.callee = .builtin .delete) := by
    have hk : ao.isEff = true := by
      cases ao <;> first | rfl | (simp [evEff] at he; done)
    cases h : o.op with
    | store t x y => exact .inl ⟨_, _, _, rfl⟩
    | mapUpdate t x y z => exact .inr (.inr (.inr (.inr (.inr (.inr (.inl ⟨_, _, _, _, .inl rfl⟩))))))
    | insert t x y z => exact .inr (.inr (.inr (.inr (.inr (.inr (.inl ⟨_, _, _, _, .inr rfl⟩))))))
    | call c =>
      cases hcal : c.callee with
      | builtin b =>
        cases b with
        | append => exact .inr (.inl ⟨c, rfl, hcal⟩)
        | copy => exact .inr (.inr (.inl ⟨c, rfl, hcal⟩))
        | clear => exact .inr (.inr (.inr (.inl ⟨c, rfl, hcal⟩)))
        | delete => exact .inr (.inr (.inr (.inr (.inr (.inr (.inr ⟨c, rfl, hcal⟩))))))
        | len =>
          exfalso
          simp only [digOp, h, hcal] at hd
          split at hd
          · simp only [digBuiltin] at hd
            repeat' split at hd
            all_goals first | contradiction | (cases hd; simp [AOp.isEff] at hk; done) | (cases hd; done) | simp_all
          · cases hd
        | cap =>
          exfalso
          simp only [digOp, h, hcal] at hd
          split at hd
          · simp only [digBuiltin] at hd
            repeat' split at hd
            all_goals first | contradiction | (cases hd; simp [AOp.isEff] at hk; done) | (cases hd; done) | simp_all
          · cases hd
        | min =>
          exfalso
          simp only [digOp, h, hcal] at hd
          split at hd
          · simp only [digBuiltin] at hd
            cases hd; simp [AOp.isEff] at hk
          · cases hd
        | max =>
          exfalso
          simp only [digOp, h, hcal] at hd
          split at hd
          · simp only [digBuiltin] at hd
            cases hd; simp [AOp.isEff] at hk
          · cases hd
        | _ =>
          exfalso
          simp only [digOp, h, hcal] at hd
          split at hd
          · simp [digBuiltin] at hd
          · cases hd
      | value f =>
        cases f with
        | func g => exact .inr (.inr (.inr (.inr (.inl ⟨c, g, rfl, hcal⟩))))
        | tmp t => exact .inr (.inr (.inr (.inr (.inr (.inl ⟨c, t, rfl, hcal⟩)))))
        | _ =>
          exfalso
          simp only [digOp, h, hcal] at hd
          split at hd
          · simp only [digCall] at hd <;> cases hd <;> simp [AOp.isEff] at hk
          · cases hd
      | invoke r n =>
        exfalso
        simp only [digOp, h, hcal] at hd
        split at hd <;> cases hd
    | alloc t =>
      exfalso
      simp only [digOp, h] at hd
      split at hd
      · split at hd
        · split at hd
          · rename_i a' ha'
            cases hd
            rw [digArr_eff ha'] at hk
            cases hk
          · cases hd; simp [AOp.isEff] at hk
        · cases hd; simp [AOp.isEff] at hk
      · cases hd
    | _ =>
      exfalso
      simp only [digOp, h] at hd
      first
        | (cases hd; done)
        | (repeat' split at hd
           all_goals first | (cases hd; simp [AOp.isEff] at hk; done) | (cases hd; done) | simp_all)
  rcases hcases with ⟨t, x, y, h⟩ | ⟨c, h, hcal⟩ | ⟨c, h, hcal⟩ | ⟨c, h, hcal⟩ | ⟨c, g, h, hcal⟩ | ⟨c, t, h, hcal⟩ | ⟨t, x, y, z, h⟩ | ⟨c, h, hcal⟩
  · exact eff_store h ao B k m w sl bl bl' a p next Q hd he hl hin hn
  · exact eff_append h hcal ao B k m w sl bl bl' a p next Q hd he hl hin hn
  · exact eff_copy h hcal ao B k m w sl bl bl' a p next Q hd he hl hin hn
  · exact eff_clear h hcal ao B k m w sl bl bl' a p next Q hd he hl hin hn
  · exact eff_call hc h hcal ao B k m w sl bl bl' a p next Q hd he hl hin hn
  · exact eff_calld hc h hcal ao B k m w sl bl bl' a p next Q hd he hl hin hn
  · exact eff_mset h ao B k m w sl bl bl' a p next Q hd he hl hin hn
  · exact eff_mdel h hcal ao B k m w sl bl bl' a p next Q hd he hl hin hn

end
end Go.Proofs.YtidkdiooempkpaaDoor
/- Regions in the text's order. -/
namespace Go.Proofs.YtidkdiooempkpaaDoor
open Go Go.RowKit
set_option linter.unusedSectionVars false
variable [Bs]
set_option linter.unusedVariables false
set_option linter.unusedSimpArgs false

structure StOk (B N : Nat) (m : Mem) (k : Nat) (w : World) (st : St) (tmps : Array Value) : Prop where
  size : tmps.size = st.sl.length
  sl : ∀ t, Rep m k (st.sl.getD t .top) (tmps.getD t undef)
  eff : EffIn B k m w st.bl
  nb : N ≤ st.bl.length
  nk : N ≤ k

structure Grow (B N : Nat) (m m' : Mem) : Prop where
  cell : ∀ b o v, m.cell b o = some v → m'.cell b o = some v
  from_ : ∀ b o v, m'.cell b o = some v → m.cell b o = some v ∨ B ≤ b
  blk : ∀ b i, b < N → m.blk b = some i → ∃ i', m'.blk b = some i' ∧ (i' = i ∨ i.ver < i'.ver)
theorem Grow.refl (B N : Nat) (m : Mem) : Grow B N m m := ⟨fun _ _ _ h => h, fun _ _ _ h => .inl h, fun _ i _ h => ⟨i, h, .inl rfl⟩⟩
theorem Grow.mle {B N : Nat} {m m' : Mem} (h : Grow B N m m') : MLe N m m' := ⟨h.cell, h.blk⟩
theorem Grow.trans {B N : Nat} {a b c : Mem} (h : Grow B N a b) (h' : Grow B N b c) : Grow B N a c :=
  ⟨fun x o v e => h'.cell _ _ _ (h.cell _ _ _ e), fun x o v e => by
    rcases h'.from_ _ _ _ e with e | e
    · exact h.from_ _ _ _ e
    · exact .inr e, (h.mle.trans h'.mle).blk⟩

/-- a state reached -/
structure Fin (B N : Nat) (m : Mem) (w : World) (a : Act) (st' : St) (m' : Mem) (k' : Nat) (w' : World) (a' : Act) : Prop where
  st : StOk B N m' k' w' st' a'.tmps
  bel : Below B w w'
  grow : Grow B N m m'
  defers : a'.defers = a.defers

theorem Fin.trans {B N : Nat} {m m1 m2 : Mem} {w w1 w2 : World} {a a1 a2 : Act} {s1 s2 : St} {k1 k2 : Nat} (h : Fin B N m w a s1 m1 k1 w1 a1) (h' : Fin B N m1 w1 a1 s2 m2 k2 w2 a2) : Fin B N m w a s2 m2 k2 w2 a2 :=
  ⟨h'.st, h.bel.trans h'.bel, h.grow.trans h'.grow, h'.defers.trans h.defers⟩

theorem getD_put {sl : List PV} {tmps : Array Value} {m m' : Mem} {k k' : Nat} {d : Option Nat} {p : PV} {v : Value} (hs : tmps.size = sl.length) (hr : ∀ t, Rep m k (sl.getD t .top) (tmps.getD t undef)) (hm : MLe k m m') (hk : k ≤ k') (hp : Rep m' k' p v) (a : Act) (ha : a.tmps = tmps) :
    (a.put d v).tmps.size = (putP sl d p).length ∧ ∀ t, Rep m' k' ((putP sl d p).getD t .top) ((a.put d v).tmps.getD t undef) := by
  subst ha
  cases d with
  | none => exact ⟨hs, fun t => ((hr t).mono hm).up hk⟩
  | some d =>
    refine ⟨by simp [Act.put, putP, hs], fun t => ?_⟩
    have := ((hr t).mono hm).up hk
    simp only [Act.put, putP]
    rw [Array.getD_eq_getD_getElem?, List.getD_eq_getElem?_getD] at this ⊢
    by_cases e : d = t
    · subst e
      by_cases hlt : d < sl.length
      · rw [List.getElem?_set_self hlt, Array.getElem?_setIfInBounds_self_of_lt (by omega)]
        exact hp
      · rw [List.getElem?_eq_none (by simp; omega), Array.getElem?_eq_none (by simp; omega)]
        exact .top
    · rw [List.getElem?_set_ne e, Array.getElem?_setIfInBounds_ne e]
      exact this

theorem Owns.more {B k : Nat} {m : Mem} {w : World} {bl : Blks} {ns : List Blk} (h : Owns B m k w bl) (hf : ∀ id, bl.length ≤ id → m.blk id = none) : Owns B m k w (bl ++ ns.map some) := by
  have key : ∀ id x i, (bl ++ ns.map some)[id]? = some (some x) → m.blk id = some i → bl[id]? = some (some x) := fun id x i hx hi => by
    by_cases hc : id < bl.length
    · rwa [List.getElem?_append_left hc] at hx
    · rw [hf id (by omega)] at hi; cases hi
  exact ⟨fun id x i hx hi => h.at_ id x i (key id x i hx hi) hi, fun id x i hx hi => h.base id x i (key id x i hx hi) hi,
    fun id x i id' x' i' hx hi hx' hi' => h.inj id x i id' x' i' (key id x i hx hi) hi (key id' x' i' hx' hi') hi'⟩

section
variable {P : Program} {call : Cl} {own : List Nat}

theorem digOper_spec {ops : Array Oper} {o : Oper} {ao : AOper} (h : digOper P own ops o = some ao) :
    digOp P own o = some ao.op ∧ ao.dst = o.dst ∧ ((o.guard = none ∧ ao.guard = none) ∨ ∃ j want s, o.guard = some (j, want) ∧ (ops[j]?).bind (·.dst) = some s ∧ ao.guard = some (s, want)) := by
  unfold digOper at h
  split at h
  · rename_i a ha
    split at h
    · rename_i hg
      cases h
      exact ⟨ha, rfl, .inl ⟨hg, rfl⟩⟩
    · rename_i j want hg
      split at h
      · rename_i s hs
        cases h
        exact ⟨ha, rfl, .inr ⟨j, want, s, hg, hs, rfl⟩⟩
      · cases h
  · cases h

/-- whether an operation is wanted, by the slot that guards it -/
theorem wanted_iff {ops : Array Oper} {o : Oper} {ao : AOper} {tmps : Array Value} (hd : digOper P own ops o = some ao) :
    (ao.guard = none → Region.wanted o (yielded ops tmps) = true) ∧ (∀ s want b, ao.guard = some (s, want) → tmps.getD s undef = .bool b → Region.wanted o (yielded ops tmps) = decide (b = want)) ∧
    ∀ s want cs, ao.guard = some (s, want) → tmps.getD s undef = .tuple cs → Region.wanted o (yielded ops tmps) = false := by
  obtain ⟨_, _, hg⟩ := digOper_spec hd
  rcases hg with ⟨h1, h2⟩ | ⟨j, want, s, h1, h2, h3⟩
  · exact ⟨fun _ => by simp [Region.wanted, h1], (fun s want b h => by rw [h2] at h; cases h), (fun s want b h => by rw [h2] at h; cases h)⟩
  · refine ⟨(fun h => by rw [h3] at h; cases h), fun s' want' b h hv => ?_, fun s' want' cs h hv => ?_⟩
    rotate_left
    · rw [h3] at h
      cases h
      have hy : yielded ops tmps j = none := by
        unfold yielded
        rw [h2]
        rw [Array.getD_eq_getD_getElem?] at hv
        simp only [Option.bind_some]
        cases hx : tmps[s]? with
        | none => rfl
        | some v => rw [hx] at hv; simp at hv; rw [hv]
      simp only [Region.wanted, h1, hy]
      rfl
    rw [h3] at h
    cases h
    have hs : tmps[s]? = some (.bool b) := by
      rw [Array.getD_eq_getD_getElem?] at hv
      cases hx : tmps[s]? with
      | none => rw [hx] at hv; simp [undef] at hv
      | some v => rw [hx] at hv; simpa using hv
    have hy : yielded ops tmps j = some b := by
      unfold yielded
      rw [h2]
      simp only [Option.bind_some, hs]
    simp only [Region.wanted, h1, hy]
    cases b <;> cases want <;> rfl

/-- one operation -/
theorem evOp_sound (hc : CallOk P call) {ops : Array Oper} {o : Oper} {ao : AOper} {B N k : Nat} {m : Mem} {w : World} {st st' : St} {a : Act} {K : Act → World → Prop} {Q : Exit → Act → World → Prop}
    (hd : digOper P own ops o = some ao) (he : evOp call st ao = some st') (hs : StOk B N m k w st a.tmps) (hn : ∀ m' k' w' a', Fin B N m w a st' m' k' w' a' → K a' w') : o.wp P a w K Q := by
  obtain ⟨h1, h2, _⟩ := digOper_spec hd
  unfold evOp at he
  split at he
  · split at he
    · rename_i p bl' hev
      cases he
      refine eff_sound hc o ao.op B k m w st.sl st.bl bl' a p K Q h1 hev (fun t _ => hs.sl t) hs.eff (fun v m' w' k' hout => hn m' k' w' _ ⟨⟨?_, ?_, ⟨hout.frz, hout.own, Nat.le_trans hs.eff.hB hout.bel.size, hout.fresh⟩, Nat.le_trans hs.nb hout.len, Nat.le_trans hs.nk hout.kk⟩, hout.bel, ⟨hout.le.cell, hout.cel, fun b i hb hi => hout.le.blk b i (Nat.lt_of_lt_of_le hb hs.nk) hi⟩, by cases o.dst <;> rfl⟩)
      · rw [h2]; exact (getD_put hs.size hs.sl hout.le hout.kk hout.rep a rfl).1
      · rw [h2]; exact (getD_put hs.size hs.sl hout.le hout.kk hout.rep a rfl).2
    · cases he
  · split at he
    · rename_i p ns hev
      cases he
      refine pur_sound hc o ao.op B k m w st.sl st.bl (st.bl ++ ns.map some) a p ns K Q h1 hev (fun t _ => hs.sl t) ⟨hs.eff.frz, hs.eff.own.more hs.eff.fresh, hs.eff.hB, fun j x hx => hx, fun j hj => hs.eff.fresh _ (by omega)⟩
        (fun v m' w' k' hout => hn m' k' w' _ ⟨⟨?_, ?_, ⟨hout.frz, hout.own, Nat.le_trans hs.eff.hB hout.bel.size, fun id hid => ?_⟩, by simp only [List.length_append]; exact Nat.le_trans hs.nb (Nat.le_add_right _ _), Nat.le_trans hs.nk hout.kk⟩, hout.bel.mono hs.eff.hB, ⟨hout.keep.cell, fun b o v hv => ?_, fun b i _ hi => ⟨i, hout.keep.blk b i hi, .inl rfl⟩⟩, by cases o.dst <;> rfl⟩)
      · rw [h2]; exact (getD_put hs.size hs.sl hout.keep.mle hout.kk hout.rep a rfl).1
      · rw [h2]; exact (getD_put hs.size hs.sl hout.keep.mle hout.kk hout.rep a rfl).2
      · simp only [List.length_append, List.length_map] at hid
        rcases hout.blk id with h | h
        · rw [h]; exact hs.eff.fresh id (by omega)
        · omega
      · rcases hout.cel b o v hv with h | h
        · exact .inl h
        · exact .inr (Nat.le_trans hs.eff.hB h)
    · cases he

theorem Fin.skip {B N k : Nat} {m : Mem} {w : World} {st : St} {a : Act} {d : Option Nat} (hs : StOk B N m k w st a.tmps) : Fin B N m w a ⟨putP st.sl d (.v (.tuple #[])), st.bl⟩ m k w (a.put d undef) :=
  ⟨⟨(getD_put hs.size hs.sl (MLe.refl _ _) (Nat.le_refl _) (.v (x := undef)) a rfl).1, (getD_put hs.size hs.sl (MLe.refl _ _) (Nat.le_refl _) (.v (x := undef)) a rfl).2, hs.eff, hs.nb, hs.nk⟩, Below.refl _ _, Grow.refl _ _ _, by cases d <;> rfl⟩

theorem ops_seq (hc : CallOk P call) {ops : Array Oper} {B N : Nat} {Q : Exit → Act → World → Prop} : ∀ (l : List Oper) (al : List AOper), digOps P own ops l = some al → ∀ (st st' : St) (a : Act) (w : World) (m : Mem) (k : Nat),
    evOps call al st = some st' → StOk B N m k w st a.tmps → (∀ m' k' w' a', Fin B N m w a st' m' k' w' a' → Q .normal a' w') → wpList P ops Q l a w
  | [], al, hd, st, st', a, w, m, k, he, hs, hq => by
    simp [digOps] at hd
    subst hd
    simp [evOps] at he
    subst he
    exact hq m k w a ⟨hs, Below.refl _ _, Grow.refl _ _ _, rfl⟩
  | o :: l, al, hd, st, st', a, w, m, k, he, hs, hq => by
    simp only [digOps] at hd
    split at hd
    · rename_i ao al' h1 h2
      cases hd
      simp only [evOps] at he
      split at he
      · rename_i st1 h3
        have ih := fun (m1 : Mem) (k1 : Nat) (w1 : World) (a1 : Act) (hf : Fin B N m w a st1 m1 k1 w1 a1) => ops_seq hc (Q := Q) l al' h2 st1 st' a1 w1 m1 k1 he hf.st (fun m' k' w' a' hf' => hq m' k' w' a' (hf.trans hf'))
        obtain ⟨_, hdst, _⟩ := digOper_spec h1
        obtain ⟨w1, w2, w3⟩ := wanted_iff (tmps := a.tmps) h1
        unfold wpList
        unfold evOne at h3
        split at h3
        · rename_i hg
          rw [if_pos (w1 hg)]
          exact .inl (evOp_sound hc h1 h3 hs ih)
        · rename_i s want hg
          split at h3
          · rename_i b hb
            have rb := hs.sl s
            rw [hb] at rb
            rw [w2 s want b hg (bool_inv rb)]
            split at h3
            · rename_i hbw
              rw [if_pos (by simpa using hbw)]
              exact .inl (evOp_sound hc h1 h3 hs ih)
            · rename_i hbw
              rw [if_neg (by simpa using hbw)]
              cases h3
              rw [← hdst]
              exact ih m k w _ (Fin.skip hs)
          · rename_i cs hb
            have rb := hs.sl s
            rw [hb] at rb
            rw [w3 s want cs hg (v_inv rb)]
            rw [if_neg (by simp)]
            cases h3
            rw [← hdst]
            exact ih m k w _ (Fin.skip hs)
          · cases h3
      · cases he
    · cases hd

end
end Go.Proofs.YtidkdiooempkpaaDoor
/- Regions that draw their order. -/
namespace Go.Proofs.YtidkdiooempkpaaDoor
open Go Go.RowKit
set_option linter.unusedSectionVars false
variable [Bs]
set_option linter.unusedVariables false
set_option linter.unusedSimpArgs false

theorem pairsFrom_spec {soft : List Nat} {x : Oper × AOper} {i : Nat} : ∀ {j : Nat} {r : List (Oper × AOper)} {bs : List Nat}, pairsFrom soft x i j r bs = true → ∀ (q : Nat) (y : Oper × AOper), r[q]? = some y → ∃ b, bs[q]? = some b ∧ pairOk soft b i (j + q) x y = true
  | j, [], bs, _, q, y, hy => by simp at hy
  | j, y0 :: r, [], h, q, y, hy => by simp [pairsFrom] at h
  | j, y0 :: r, b :: bs, h, q, y, hy => by
    simp only [pairsFrom, Bool.and_eq_true] at h
    cases q with
    | zero => simp at hy; subst hy; exact ⟨b, rfl, h.1⟩
    | succ q =>
      obtain ⟨b', h1, h2⟩ := pairsFrom_spec h.2 q y (by simpa using hy)
      exact ⟨b', by simpa using h1, by rw [show j + (q + 1) = j + 1 + q by omega]; exact h2⟩
theorem pairsGo_spec {soft : List Nat} : ∀ {i : Nat} {l : List (Oper × AOper)} {bs : List Nat}, pairsGo soft i l bs = true → ∀ (p q : Nat) (x y : Oper × AOper), p < q → l[p]? = some x → l[q]? = some y → ∃ b, bs[q]? = some b ∧ pairOk soft b (i + p) (i + q) x y = true
  | i, [], bs, _, p, q, x, y, _, hx, _ => by simp at hx
  | i, x0 :: r, bs, h, p, q, x, y, hpq, hx, hy => by
    simp only [pairsGo, Bool.and_eq_true] at h
    cases q with
    | zero => omega
    | succ q =>
      have tl : ∀ b, bs.tail[q]? = some b → bs[q + 1]? = some b := fun b hb => by cases bs <;> simp_all
      cases p with
      | zero =>
        simp at hx
        subst hx
        obtain ⟨b, h1, h2⟩ := pairsFrom_spec h.1 q y (by simpa using hy)
        exact ⟨b, tl b h1, by rw [show i + (q + 1) = i + 1 + q by omega]; simpa using h2⟩
      | succ p =>
        obtain ⟨b, h1, h2⟩ := pairsGo_spec h.2 p q x y (by omega) (by simpa using hx) (by simpa using hy)
        exact ⟨b, tl b h1, by rw [show i + (p + 1) = i + 1 + p by omega, show i + (q + 1) = i + 1 + q by omega]; exact h2⟩

theorem befOne_spec {acc : List Nat} {i : Nat} : ∀ {es : List Edge}, (befOne acc es).testBit i = true → ∃ e ∈ es, Region.binds .any e = true ∧ (i = e.on ∨ (acc.getD e.on 0).testBit i = true)
  | [], h => by simp [befOne] at h
  | e :: es, h => by
    simp only [befOne] at h
    split at h
    · rename_i hb
      rw [Nat.testBit_or, Nat.testBit_or, Bool.or_eq_true, Bool.or_eq_true] at h
      rcases h with (h | h) | h
      · rw [Nat.testBit_two_pow] at h
        exact ⟨e, by simp, hb, .inl (by have := of_decide_eq_true h; omega)⟩
      · exact ⟨e, by simp, hb, .inr h⟩
      · obtain ⟨e', h1, h2⟩ := befOne_spec h
        exact ⟨e', by simp [h1], h2⟩
    · obtain ⟨e', h1, h2⟩ := befOne_spec h
      exact ⟨e', by simp [h1], h2⟩

/-- what is before an operation whose edges are done is done -/
theorem befAll_spec {G : Nat → Prop} {all : List Oper} (hG : ∀ (x : Nat) (o : Oper), all[x]? = some o → G x → ∀ e ∈ o.after.toList, Region.binds .any e = true → G e.on) :
    ∀ (r : List Oper) (acc : List Nat) (d : List Oper), all = d ++ r → acc.length = d.length →
      (∀ (x : Nat) (o : Oper) (b : Nat), all[x]? = some o → acc[x]? = some b → (∀ e ∈ o.after.toList, Region.binds .any e = true → G e.on) → ∀ i, b.testBit i = true → G i) →
      ∀ (x : Nat) (o : Oper) (b : Nat), all[x]? = some o → (befAll r acc)[x]? = some b → (∀ e ∈ o.after.toList, Region.binds .any e = true → G e.on) → ∀ i, b.testBit i = true → G i
  | [], acc, d, _, _, h => by simpa [befAll] using h
  | o :: r, acc, d, hall, hlen, h => by
    simp only [befAll]
    refine befAll_spec hG r _ (d ++ [o]) (by simp [hall]) (by simp [hlen]) (fun x o' b hx hb he i hi => ?_)
    by_cases hc : x < acc.length
    · rw [List.getElem?_append_left hc] at hb
      exact h x o' b hx hb he i hi
    · have hxl : x = acc.length := by
        have := (List.getElem?_eq_some_iff.1 hb).1
        simp at this
        omega
      subst hxl
      simp at hb
      subst hb
      have hoo : o' = o := by
        rw [hall, List.getElem?_append_right (by omega), hlen] at hx
        simpa using hx.symm
      subst hoo
      obtain ⟨e, h1, h2, h3⟩ := befOne_spec hi
      rcases h3 with h3 | h3
      · rw [h3]; exact he e h1 h2
      · cases hb' : acc[e.on]? with
        | none => rw [List.getD_eq_getElem?_getD, hb'] at h3; simp at h3
        | some b' =>
          rw [List.getD_eq_getElem?_getD, hb'] at h3
          have hlt := (List.getElem?_eq_some_iff.1 hb').1
          have hlt2 : e.on < all.length := by rw [hall]; simp; omega
          have hge := he e h1 h2
          exact h e.on _ b' (List.getElem?_eq_getElem hlt2) hb' (hG e.on _ (List.getElem?_eq_getElem hlt2) hge) i h3

theorem edgesOk_spec : ∀ {i : Nat} {l : List Oper}, edgesOk i l = true → ∀ (x : Nat) (o : Oper), l[x]? = some o → ∀ e ∈ o.after.toList, Region.binds .any e = true → e.on < i + x
  | i, [], _, x, o, hx => by simp at hx
  | i, o0 :: r, h, x, o, hx => by
    simp only [edgesOk, Bool.and_eq_true] at h
    cases x with
    | zero =>
      simp at hx
      subst hx
      intro e he hb
      have := List.all_eq_true.1 h.1 e he
      simp [hb] at this
      simpa [Nat.blt_eq] using this
    | succ x =>
      intro e he hb
      have := edgesOk_spec h.2 x o (by simpa using hx) e he hb
      omega

section
variable {P : Program} {call : Cl} {own : List Nat}

theorem evOps_trace : ∀ {al : List AOper} {st st' : St}, evOps call al st = some st' → ∃ S : Nat → St, S 0 = st ∧ S al.length = st' ∧ ∀ (i : Nat) (ao : AOper), al[i]? = some ao → evOne call (S i) ao = some (S (i + 1))
  | [], st, st', h => by simp [evOps] at h; subst h; exact ⟨fun _ => st, rfl, rfl, fun i ao hi => by simp at hi⟩
  | ao :: al, st, st', h => by
    simp only [evOps] at h
    split at h
    · rename_i st1 h1
      obtain ⟨S, s0, s1, s2⟩ := evOps_trace h
      refine ⟨fun i => match i with | 0 => st | i + 1 => S i, rfl, by simpa using s1, fun i ao' hi => ?_⟩
      cases i with
      | zero => simp at hi; subst hi; simpa [s0] using h1
      | succ i => simpa using s2 i ao' (by simpa using hi)
    · cases h

/-- one step of the text's order: what it does to slots and blocks -/
structure StepOk (call : Cl) (s s' : St) (ao : AOper) : Prop where
  oth : ∀ t, ao.dst ≠ some t → s'.sl.getD t .top = s.sl.getD t .top
  len : s'.sl.length = s.sl.length
  ble : s.bl.length ≤ s'.bl.length
  pre : ao.op.isEff = false → ∃ ns : List Blk, s'.bl = s.bl ++ ns.map some
  non : memK ao.op = false → s'.bl = s.bl

theorem putP_oth {sl : List PV} {d : Option Nat} {p : PV} {t : Nat} (h : d ≠ some t) : (putP sl d p).getD t .top = sl.getD t .top := by
  cases d with
  | none => rfl
  | some d =>
    simp only [putP]
    rw [List.getD_eq_getElem?_getD, List.getD_eq_getElem?_getD, List.getElem?_set_ne (fun e => h (by rw [e]))]
theorem putP_len {sl : List PV} {d : Option Nat} {p : PV} : (putP sl d p).length = sl.length := by cases d <;> simp [putP]

theorem evPur_ind {sl : List PV} {ao : AOp} (hm : memK ao = false) (bl bl' : Blks) : evPur call sl bl ao = evPur call sl bl' ao := by
  cases ao with
  | conv k x =>
    cases k with
    | int k => simp only [evPur]; generalize x.ev sl = p; cases p <;> rfl
    | same => simp only [evPur]; generalize x.ev sl = p; cases p <;> rfl
    | _ => simp [memK] at hm
  | nilq s neg x =>
    simp only [memK] at hm
    subst hm
    simp only [evPur]
    generalize x.ev sl = p
    cases p with
    | v y => cases y <;> rfl
    | own b ver lo len => cases len <;> rfl
    | sl ex e rows => cases rows <;> rfl
    | _ => rfl
  | _ => first | rfl | (simp [memK] at hm; done)
theorem evPur_nil {sl : List PV} {bl : Blks} {ao : AOp} {p : PV} {ns : List Blk} (hm : memK ao = false) (h : evPur call sl bl ao = some (p, ns)) : ns = [] := by
  cases ao with
  | conv k x =>
    cases k with
    | int k => simp only [evPur] at h; (repeat' split at h) <;> first | (cases h; done) | (cases h; rfl)
    | same => simp only [evPur] at h; (repeat' split at h) <;> first | (cases h; done) | (cases h; rfl)
    | _ => simp [memK] at hm
  | _ => first
    | (simp [memK] at hm; done)
    | (simp only [evPur] at h
       (repeat' split at h) <;> first | (cases h; done) | (cases h; rfl))
theorem evPur_non {sl : List PV} {bl : Blks} {ao : AOp} {p : PV} {ns : List Blk} (hm : memK ao = false) (h : evPur call sl bl ao = some (p, ns)) : ns = [] ∧ ∀ bl', evPur call sl bl' ao = some (p, ns) :=
  ⟨evPur_nil hm h, fun bl' => (evPur_ind hm bl' bl).trans h⟩

theorem memK_eff {ao : AOp} (h : ao.isEff = true) : memK ao = true := by cases ao <;> first | rfl | (simp [AOp.isEff] at h; done)

theorem evEff_len {sl : List PV} {bl bl' : Blks} {ao : AOp} {p : PV} (h : evEff call sl bl ao = some (p, bl')) : bl.length ≤ bl'.length := by
  cases ao <;> simp only [evEff] at h <;> (repeat' split at h) <;> first | (cases h; done) | (cases h; simp; done) | (cases h; assumption)

theorem evOne_step {s s' : St} {ao : AOper} (h : evOne call s ao = some s') : StepOk call s s' ao := by
  have hop : ∀ {s'}, evOp call s ao = some s' → StepOk call s s' ao := by
    intro s' h
    unfold evOp at h
    split at h
    · rename_i he
      split at h
      · rename_i p bl' hev
        cases h
        exact ⟨fun t ht => putP_oth ht, putP_len, evEff_len hev, (fun hf => by rw [he] at hf; cases hf), (fun hm => by rw [memK_eff he] at hm; cases hm)⟩
      · cases h
    · split at h
      · rename_i p ns hev
        cases h
        exact ⟨fun t ht => putP_oth ht, putP_len, by simp, fun _ => ⟨ns, rfl⟩, fun hm => by simp [(evPur_non hm hev).1]⟩
      · cases h
  have hskip : StepOk call s ⟨putP s.sl ao.dst (.v (.tuple #[])), s.bl⟩ ao := ⟨fun t ht => putP_oth ht, putP_len, Nat.le_refl _, fun _ => ⟨[], by simp⟩, fun _ => rfl⟩
  unfold evOne at h
  split at h
  · exact hop h
  · split at h
    · split at h
      · exact hop h
      · cases h; exact hskip
    · cases h; exact hskip
    · cases h

theorem hard_eff {soft : List Nat} {j : Nat} {ao : AOp} (h : ao.isEff = true) : hardK soft j ao = true := by
  unfold hardK
  rw [memK_eff h, h]
  rfl
theorem getB_at {bl bl2 : Blks} {b : Nat} (h : bl2[b]? = bl[b]?) (ver : Nat) : getB bl2 b ver = getB bl b ver := by
  unfold getB
  rw [h]
/-- an operation that makes nothing, where the blocks that it looks at are the same -/
theorem soft_same {sl : List PV} {bl bl2 : Blks} {ao : AOp} {p : PV} {ns : List Blk} {rs : List Nat} (hr : softRd sl ao = some rs) (hb : ∀ b ∈ rs, bl2[b]? = bl[b]?) (h : evPur call sl bl ao = some (p, ns)) : ns = [] ∧ evPur call sl bl2 ao = some (p, ns) := by
  have key : ∀ (x : PV), rs = rdP x → ∀ b ver r off, x = .ptr b ver r off → ∀ v, getB bl2 b v = getB bl b v := fun x e b ver r off hx v => getB_at (hb b (by rw [e, hx]; simp [rdP])) v
  have keyo : ∀ (x : PV), rs = rdP x → ∀ b ver r off, x = .own b ver r off → ∀ v, getB bl2 b v = getB bl b v := fun x e b ver r off hx v => getB_at (hb b (by rw [e, hx]; simp [rdP])) v
  cases ao with
  | load n agg a =>
    simp only [softRd, Option.some.injEq] at hr
    simp only [evPur] at h ⊢
    split at h
    · rename_i b ver r off hv
      rw [key _ hr.symm b ver r off hv]
      refine ⟨?_, h⟩
      (repeat' split at h) <;> first | (cases h; done) | (cases h; rfl)
    · refine ⟨?_, h⟩
      (repeat' split at h) <;> first | (cases h; done) | (cases h; rfl)
    · cases h
  | faddr off a =>
    simp only [softRd, Option.some.injEq] at hr
    simp only [evPur] at h ⊢
    split at h
    · rename_i b ver r o hv
      rw [key _ hr.symm b ver r o hv]
      refine ⟨?_, h⟩
      (repeat' split at h) <;> first | (cases h; done) | (cases h; rfl)
    · refine ⟨?_, h⟩
      cases h; rfl
    · cases h
  | len x =>
    simp only [softRd, Option.some.injEq] at hr
    simp only [evPur] at h ⊢
    split at h
    · exact ⟨by cases h; rfl, h⟩
    · exact ⟨by cases h; rfl, h⟩
    · rename_i b ver lo len hv
      rw [keyo _ hr.symm b ver lo len hv]
      refine ⟨?_, h⟩
      (repeat' split at h) <;> first | (cases h; done) | (cases h; rfl)
    · cases h
  | iaddr k x i =>
    simp only [softRd, Option.some.injEq] at hr
    simp only [evPur] at h ⊢
    split at h
    · split at h
      · rename_i hi
        rw [if_pos hi]
        split at h
        · split at h
          · refine ⟨?_, h⟩
            (repeat' split at h) <;> first | (cases h; done) | (cases h; rfl)
          · rename_i b ver lo len hv
            rw [keyo _ hr.symm b ver lo len hv]
            refine ⟨?_, h⟩
            (repeat' split at h) <;> first | (cases h; done) | (cases h; rfl)
          · cases h
        · split at h
          · rename_i hin
            rw [if_pos hin]
            split at h
            · rename_i b ver r o hv
              rw [key _ hr.symm b ver r o hv]
              refine ⟨?_, h⟩
              (repeat' split at h) <;> first | (cases h; done) | (cases h; rfl)
            · exact ⟨by cases h; rfl, h⟩
            · cases h
          · cases h
      · cases h
    · cases h
  | bslice own e z n parts =>
    simp only [softRd] at hr
    split at hr
    · cases hr
    · rename_i ho
      have ho : own = false := by simpa using ho
      subst ho
      split at hr
      · rename_i cs hcs
        split at hr
        · rename_i hlt
          simp only [evPur, hcs] at h ⊢
          split at h
          · rename_i hleaf
            rw [if_pos hleaf]
            simp only [Bool.false_or, hlt, Bool.not_true, Bool.false_eq_true, if_false] at h ⊢
            exact ⟨by cases h; rfl, h⟩
          · cases h
        · cases hr
      · cases hr
  | _ => simp [softRd] at hr
/-- a block that an operation does not change -/
theorem eff_keep {sl : List PV} {bl bl' : Blks} {ao : AOp} {p : PV} {ts : List Nat} {b : Nat} (ht : effTg sl ao = some ts) (hb : b < bl.length) (hn : ¬ b ∈ ts) (h : evEff call sl bl ao = some (p, bl')) : bl'[b]? = bl[b]? := by
  cases ao with
  | store n a x =>
    simp only [effTg] at ht
    simp only [evEff] at h
    split at ht
    · rename_i b0 ver r off hv
      cases ht
      rw [hv] at h
      have hne : b0 ≠ b := fun e => hn (by simp [e])
      simp only at h
      (repeat' split at h) <;> first | (cases h; done) | (cases h; exact List.getElem?_set_ne hne)
    · cases ht
  | append e by_ s x =>
    simp only [effTg] at ht
    simp only [evEff] at h
    split at h
    · split at ht
      · rename_i b0 ver lo len hv
        cases ht
        rw [hv] at h
        have hne : b0 ≠ b := fun e => hn (by simp [e])
        simp only at h
        (repeat' split at h) <;> first | (cases h; done) | (cases h; exact List.getElem?_set_ne hne)
      · rename_i hv
        cases ht
        rw [hv] at h
        simp only at h
        (repeat' split at h) <;> first | (cases h; done) | (cases h; exact List.getElem?_append_left hb)
      · rename_i e' rows hv
        cases ht
        rw [hv] at h
        simp only at h
        (repeat' split at h) <;> first | (cases h; done) | (cases h; exact List.getElem?_append_left hb)
      · cases ht
    · cases h
  | copy e d s =>
    simp only [effTg] at ht
    simp only [evEff] at h
    split at ht
    · rename_i b0 ver lo len hv
      cases ht
      rw [hv] at h
      have hne : b0 ≠ b := fun e => hn (by simp [e])
      split at h
      · rename_i h1 h2
        cases h1
        (repeat' split at h) <;> first | (cases h; done) | (cases h; exact List.getElem?_set_ne hne)
      · cases h
    · cases ht
  | clr e z d =>
    simp only [effTg] at ht
    simp only [evEff] at h
    split at ht
    · rename_i b0 ver lo len hv
      cases ht
      rw [hv] at h
      have hne : b0 ≠ b := fun e => hn (by simp [e])
      simp only at h
      (repeat' split at h) <;> first | (cases h; done) | (cases h; exact List.getElem?_set_ne hne)
    · cases ht
  | mset ks ag m k v =>
    simp only [effTg] at ht
    simp only [evEff] at h
    split at ht
    · rename_i b0 ver hv
      cases ht
      rw [hv] at h
      have hne : b0 ≠ b := fun e => hn (by simp [e])
      split at h
      · rename_i h1 h2
        cases h2
        (repeat' split at h) <;> first | (cases h; done) | (cases h; exact List.getElem?_set_ne hne)
      · cases h
    · cases ht
  | mdel ks ag m k =>
    simp only [effTg] at ht
    simp only [evEff] at h
    split at ht
    · rename_i b0 ver hv
      cases ht
      rw [hv] at h
      have hne : b0 ≠ b := fun e => hn (by simp [e])
      split at h
      · rename_i h1 h2
        cases h2
        (repeat' split at h) <;> first | (cases h; done) | (cases h; exact List.getElem?_set_ne hne)
      · cases h
    · cases ht
  | _ => simp [effTg] at ht
mutual
theorem same_eq : ∀ {p q : PV}, PV.same p q = true → p = q
  | .bool a, q, h => by cases q <;> simp_all [PV.same]
  | .int k a, q, h => by cases q <;> simp_all [PV.same]
  | .str a, q, h => by cases q <;> simp_all [PV.same]
  | .top, q, h => by cases q <;> simp_all [PV.same]
  | .nilS, q, h => by cases q <;> simp_all [PV.same]
  | .nn, q, h => by cases q <;> simp_all [PV.same]
  | .agg a, q, h => by
    cases q with
    | agg b =>
      have h' : PV.same.sameL a b = true := by simpa [PV.same] using h
      have e := same_eqL h'
      rw [e]
    | _ => simp [PV.same] at h
  | .tup a, q, h => by cases q <;> simp [PV.same] at h
  | .fr e r, q, h => by cases q <;> simp [PV.same] at h
  | .cptr a, q, h => by cases q <;> simp [PV.same] at h
  | .ob a, q, h => by cases q <;> simp [PV.same] at h
  | .fn f a, q, h => by
    cases q with
    | fn g b =>
      simp only [PV.same, Bool.and_eq_true, Nat.beq_eq] at h
      have e := same_eqL h.2
      rw [h.1, e]
    | _ => simp [PV.same] at h
  | .sl x e r, q, h => by
    cases q with
    | sl y f s =>
      simp only [PV.same, Bool.and_eq_true, Nat.beq_eq, beq_iff_eq] at h
      have e := same_eqLL h.2
      rw [h.1.1, h.1.2, e]
    | _ => simp [PV.same] at h
  | .own a b c d, q, h => by cases q <;> simp_all [PV.same]
  | .ptr a b c d, q, h => by cases q <;> simp_all [PV.same]
  | .mp a b, q, h => by cases q <;> simp_all [PV.same]
  | .v x, q, h => by
    unfold PV.same at h
    split at h <;> first | (cases h; done) | simp_all
theorem same_eqL : ∀ {p q : List PV}, PV.same.sameL p q = true → p = q
  | [], [], _ => rfl
  | [], _ :: _, h => by simp [PV.same.sameL] at h
  | _ :: _, [], h => by simp [PV.same.sameL] at h
  | p :: r, q :: s, h => by
    simp only [PV.same.sameL, Bool.and_eq_true] at h
    have e1 := same_eq h.1
    have e2 := same_eqL h.2
    rw [e1, e2]
theorem same_eqLL : ∀ {p q : List (List PV)}, PV.same.sameLL p q = true → p = q
  | [], [], _ => rfl
  | [], _ :: _, h => by simp [PV.same.sameLL] at h
  | _ :: _, [], h => by simp [PV.same.sameLL] at h
  | p :: r, q :: s, h => by
    simp only [PV.same.sameLL, Bool.and_eq_true] at h
    have e1 := same_eqL h.1
    have e2 := same_eqLL h.2
    rw [e1, e2]
end
theorem sameB_eq {x y : Option (Option Blk)} (h : sameB x y = true) : x = y := by
  unfold sameB at h
  split at h
  · rfl
  · rename_i a b
    simp only [Bool.and_eq_true, Nat.beq_eq, beq_iff_eq] at h
    obtain ⟨⟨⟨h1, h2⟩, h3⟩, h4⟩ := h
    obtain ⟨a1, a2, a3, a4⟩ := a
    obtain ⟨b1, b2, b3, b4⟩ := b
    simp only at h1 h2 h3 h4
    rw [h1, h2, h3, same_eqLL h4]
  · cases h
theorem chgN_not {bl bl' : Blks} : ∀ {n b : Nat}, b < n → ¬ b ∈ chgN bl bl' n → bl'[b]? = bl[b]?
  | 0, b, h, _ => by omega
  | n + 1, b, h, hn => by
    unfold chgN at hn
    by_cases hb : b = n
    · subst hb
      split at hn
      · rename_i hs; exact (sameB_eq hs).symm
      · simp at hn
    · split at hn
      · exact chgN_not (by omega) hn
      · exact chgN_not (by omega) (fun hm => hn (List.mem_cons_of_mem _ hm))
/-- a block that an operation does not change, from one state to the next -/
theorem tg_keep {st st' : St} {o : AOper} {ts : List Nat} {b : Nat} (ht : tgOf st st' o.op = some ts) (hef : o.op.isEff = true) (hb : b < st.bl.length) (hn : ¬ b ∈ ts) (h : evOne call st o = some st') : st'.bl[b]? = st.bl[b]? := by
  by_cases hc : (∃ f as, o.op = .callS f as) ∨ ∃ f as, o.op = .calldS f as
  · have ht' : tgOf st st' o.op = some (chgN st.bl st'.bl st.bl.length) := by
      rcases hc with ⟨f, as, hc⟩ | ⟨f, as, hc⟩ <;> (rw [hc]; rfl)
    rw [ht'] at ht
    cases ht
    exact chgN_not hb hn
  · have ht' : effTg st.sl o.op = some ts := by
      revert ht
      cases ho : o.op with
      | callS f as => exact absurd (.inl ⟨f, as, ho⟩) hc
      | calldS f as => exact absurd (.inr ⟨f, as, ho⟩) hc
      | _ => exact fun h => h
    have hop : ∀ s', evOp call st o = some s' → s'.bl[b]? = st.bl[b]? := by
      intro s' h
      unfold evOp at h
      rw [if_pos hef] at h
      split at h
      · rename_i p bl' hev
        cases h
        exact eff_keep ht' hb hn hev
      · cases h
    unfold evOne at h
    split at h
    · exact hop _ h
    · split at h
      · split at h
        · exact hop _ h
        · have := (Option.some.inj h).symm; rw [this]
      · have := (Option.some.inj h).symm; rw [this]
      · cases h
theorem softGo_spec {soft : List Nat} : ∀ {al : List AOper} {i : Nat} {st : St} {rd tg : List Nat}, softGo call soft i al st = some (rd, tg) → ∀ S : Nat → St, S 0 = st → (∀ (j : Nat) (ao : AOper), al[j]? = some ao → evOne call (S j) ao = some (S (j + 1))) →
    (∀ (j : Nat) (ao : AOper), al[j]? = some ao → ao.op.isEff = true → ∃ ts, tgOf (S j) (S (j + 1)) ao.op = some ts ∧ ∀ b ∈ ts, b ∈ tg) ∧
    (∀ (j : Nat) (ao : AOper), al[j]? = some ao → ao.op.isEff = false → hasN (i + j) soft = true → ao.guard = none ∧ ∃ rs, softRd (S j).sl ao.op = some rs ∧ ∀ b ∈ rs, b ∈ rd)
  | [], i, st, rd, tg, h, S, s0, s1 => ⟨fun j ao hj => by simp at hj, fun j ao hj => by simp at hj⟩
  | o :: al, i, st, rd, tg, h, S, s0, s1 => by
    have h1 := s1 0 o rfl
    rw [s0] at h1
    have hS1 : S 1 = S 1 := rfl
    simp only [softGo, h1] at h
    split at h
    · rename_i rd0 tg0 hgo
      obtain ⟨i1, i2⟩ := softGo_spec hgo (fun j => S (j + 1)) rfl (fun j ao hj => s1 (j + 1) ao (by simpa using hj))
      split at h
      · rename_i hef
        split at h
        · rename_i ts hts
          cases h
          refine ⟨fun j ao hj he => ?_, fun j ao hj he hs => ?_⟩
          · cases j with
            | zero => simp at hj; subst hj; exact ⟨ts, by rw [s0, show S (0 + 1) = _ from hS1]; exact hts, fun b hb => List.mem_append_left _ hb⟩
            | succ j =>
              obtain ⟨ts', q1, q2⟩ := i1 j ao (by simpa using hj) he
              exact ⟨ts', q1, fun b hb => List.mem_append_right _ (q2 b hb)⟩
          · cases j with
            | zero => simp at hj; subst hj; rw [hef] at he; cases he
            | succ j => exact i2 j ao (by simpa using hj) he (by rw [show i + 1 + j = i + (j + 1) by omega]; exact hs)
        · cases h
      · rename_i hef
        split at h
        · rename_i hso
          split at h
          · rename_i rs hg hrs
            cases h
            refine ⟨fun j ao hj he => ?_, fun j ao hj he hs => ?_⟩
            · cases j with
              | zero => simp at hj; subst hj; exact absurd he hef
              | succ j => exact i1 j ao (by simpa using hj) he
            · cases j with
              | zero => simp at hj; subst hj; exact ⟨hg, rs, by rw [s0]; exact hrs, fun b hb => List.mem_append_left _ hb⟩
              | succ j =>
                obtain ⟨q1, rs', q2, q3⟩ := i2 j ao (by simpa using hj) he (by rw [show i + 1 + j = i + (j + 1) by omega]; exact hs)
                exact ⟨q1, rs', q2, fun b hb => List.mem_append_right _ (q3 b hb)⟩
          · cases h
        · rename_i hso
          cases h
          refine ⟨fun j ao hj he => ?_, fun j ao hj he hs => ?_⟩
          · cases j with
            | zero => simp at hj; subst hj; exact absurd he hef
            | succ j => exact i1 j ao (by simpa using hj) he
          · cases j with
            | zero => exact absurd hs hso
            | succ j => exact i2 j ao (by simpa using hj) he (by rw [show i + 1 + j = i + (j + 1) by omega]; exact hs)
    · cases h
/-- the operations that may change places find the same at every time of the region -/
theorem soft_reg {soft : List Nat} {al : List AOper} {st : St} (hc : softChk call soft al st = true) (S : Nat → St) (s0 : S 0 = st) (s1 : ∀ (j : Nat) (ao : AOper), al[j]? = some ao → evOne call (S j) ao = some (S (j + 1))) :
    ∀ (j : Nat) (ao : AOper) (f : Nat), al[j]? = some ao → ao.op.isEff = false → hasN j soft = true → f ≤ al.length → ao.guard = none ∧ ∃ p, evPur call (S j).sl (S j).bl ao.op = some (p, []) ∧ evPur call (S j).sl (S f).bl ao.op = some (p, []) := by
  unfold softChk at hc
  split at hc
  · rename_i rd tg hgo
    obtain ⟨i1, i2⟩ := softGo_spec hgo S s0 s1
    have hrd : ∀ b ∈ rd, b < st.bl.length ∧ ¬ b ∈ tg := fun b hb => by
      have := List.all_eq_true.1 hc b hb
      simp only [Bool.and_eq_true, Nat.blt_eq, Bool.not_eq_true'] at this
      refine ⟨this.1, fun hm => ?_⟩
      have hN : ∀ {b : Nat} {l : List Nat}, b ∈ l → hasN b l = true := by
        intro b l
        induction l with
        | nil => intro h; cases h
        | cons c r ih =>
          intro h
          simp only [hasN, Bool.or_eq_true]
          rcases List.mem_cons.1 h with rfl | h
          · exact .inl (by simp)
          · exact .inr (ih h)
      rw [hN hm] at this
      cases this.2
    have keep : ∀ (f : Nat), f ≤ al.length → ∀ b ∈ rd, (S f).bl[b]? = (S 0).bl[b]? ∧ b < (S f).bl.length := by
      intro f
      induction f with
      | zero => intro _ b hb; exact ⟨rfl, by rw [s0]; exact (hrd b hb).1⟩
      | succ f ih =>
        intro hf b hb
        obtain ⟨e1, e2⟩ := ih (by omega) b hb
        have hlt : f < al.length := by omega
        have hax := List.getElem?_eq_getElem hlt
        have hst := s1 f _ hax
        have hs := evOne_step hst
        have hlen : b < (S (f + 1)).bl.length := Nat.lt_of_lt_of_le e2 hs.ble
        refine ⟨?_, hlen⟩
        rw [← e1]
        cases hef : al[f].op.isEff
        · obtain ⟨ns, hns⟩ := hs.pre hef
          rw [hns, List.getElem?_append_left e2]
        · obtain ⟨ts, q1, q2⟩ := i1 f _ hax hef
          have hnt : ¬ b ∈ ts := fun h => (hrd b hb).2 (q2 b h)
          exact tg_keep q1 hef e2 hnt hst
    intro j ao f hj hne hs hf
    obtain ⟨hg, rs, q1, q2⟩ := i2 j ao hj hne (by rw [Nat.zero_add]; exact hs)
    refine ⟨hg, ?_⟩
    have hst := s1 j ao hj
    have hjl := (List.getElem?_eq_some_iff.1 hj).1
    unfold evOne at hst
    rw [hg] at hst
    simp only [evOp, hne, Bool.false_eq_true, if_false] at hst
    split at hst
    · rename_i p ns hev
      obtain ⟨hns, _⟩ := soft_same (bl2 := (S j).bl) q1 (fun _ _ => rfl) hev
      subst hns
      refine ⟨p, hev, (soft_same (bl2 := (S f).bl) q1 (fun b hb => ?_) hev).2⟩
      rw [(keep f hf b (q2 b hb)).1, (keep j (by omega) b (q2 b hb)).1]
    · cases hst
  · cases hc

end
end Go.Proofs.YtidkdiooempkpaaDoor
