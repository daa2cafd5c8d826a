/- Calls of functions. -/
import Derived.Test.YtlnaibkpmklkiaaEvL
namespace Go.Proofs.Ytlnaibkpmklkiaa
open Go Go.RowKit
set_option linter.unusedSectionVars false
variable [Bs]
set_option linter.unusedVariables false
set_option linter.unusedSimpArgs false

def noBlk : Nat → Option Info := fun _ => none

/-- what a call leaves: its result r reads as v; its fresh slices lie in new blocks -/
def RetOk (m : Mem) (w w' : World) (r : PV) (v : Value) : Prop :=
  Below w.heap.size w w' ∧ ∃ (c' : Nat → Nat → Option Value) (infos : List Info),
    (∀ b o u, m.cell b o = some u → c' b o = some u) ∧ (∀ b o u, c' b o = some u → m.cell b o = some u ∨ w.heap.size ≤ b) ∧ FrzOk ⟨c', noBlk⟩ w' ∧
    infos.length = (impB r).length ∧
    (∀ (j : Nat) (x : Blk) (i : Info), (impB r)[j]? = some x → infos[j]? = some i → BlkAt ⟨c', noBlk⟩ 0 w' i x ∧ (i.virt = false → w.heap.size ≤ i.g ∧ ∀ o, c' i.g o = none)) ∧
    (∀ (j : Nat) (i : Info) (j' : Nat) (i' : Info), infos[j]? = some i → infos[j']? = some i' → i.virt = false → i'.virt = false → i.g = i'.g → j = j') ∧
    ∀ K mb, (∀ (j : Nat) (i : Info), infos[j]? = some i → mb (K + j) = some i) → Rep ⟨c', mb⟩ (K + infos.length) (impV K r) v

structure EffIn (B k : Nat) (m : Mem) (w : World) (bl : Blks) : Prop where
  frz : FrzOk m w
  own : Owns B m k w bl
  hB : B ≤ w.heap.size
  fresh : ∀ id, bl.length ≤ id → m.blk id = none

structure EffOut (B k : Nat) (m : Mem) (w : World) (bl : Blks) (bl' : Blks) (p : PV) (v : Value) (m' : Mem) (w' : World) (k' : Nat) : Prop where
  rep : Rep m' k' p v
  le : MLe k m m'
  kk : k ≤ k'
  frz : FrzOk m' w'
  own : Owns B m' k' w' bl'
  bel : Below B w w'
  cel : ∀ b o u, m'.cell b o = some u → m.cell b o = some u ∨ B ≤ b
  len : bl.length ≤ bl'.length
  fresh : ∀ id, bl'.length ≤ id → m'.blk id = none

/-- a call of a function with a body; or of one that the model stands in for, which ends here and now -/
def CallsX (P : Program) (f : Nat) (vs : Array Value) (w : World) (R : Ending → World → Prop) : Prop :=
  ((∃ fn, P.funcs[f]? = some fn ∧ fn.body.isSome = true ∧ fn.name ≠ "runtime.NumGoroutine") ∧ Calls P f vs w R) ∨
  ((∃ fn, P.funcs[f]? = some fn ∧ fn.body.isSome = false) ∧ ∃ v, (callFunc f vs).run P w = .ok (.value v) w ∧ R (.returned v) w)
theorem CallsX.mono {P : Program} {f : Nat} {vs : Array Value} {w : World} {R R' : Ending → World → Prop} (h : CallsX P f vs w R) (hR : ∀ e w', R e w' → R' e w') : CallsX P f vs w R' := by
  rcases h with ⟨h1, h2⟩ | ⟨h1, v, h2, h3⟩
  · exact .inl ⟨h1, h2.mono hR⟩
  · exact .inr ⟨h1, v, h2, hR _ _ h3⟩
def CallOkP (P : Program) (call : Nat → List PV → Option PV) : Prop :=
  ∀ f args r, call f args = some r →
    ∀ (m : Mem) (w : World) (vs : Array Value), args.length = vs.size → (∀ (i : Nat) (p : PV), args[i]? = some p → Rep m 0 p (vs.getD i undef)) → FrzOk m w →
      CallsX P f vs w fun e w' => ∃ v, e = .returned v ∧ RetOk m w w' r v
def CallOkS (P : Program) (s : Nat → List PV → Blks → Option (PV × Blks)) : Prop :=
  ∀ f args bl p bl', s f args bl = some (p, bl') → (∃ fn, P.funcs[f]? = some fn ∧ fn.body.isSome = true ∧ fn.name ≠ "runtime.NumGoroutine") ∧
    ∀ (B k : Nat) (m : Mem) (w : World) (vs : Array Value), args.length = vs.size → (∀ (i : Nat) (p : PV), args[i]? = some p → Rep m k p (vs.getD i undef)) → EffIn B k m w bl →
      Calls P f vs w fun e w' => ∃ v m' k', e = .returned v ∧ EffOut B k m w bl bl' p v m' w' k'
def CallOk (P : Program) (call : Cl) : Prop := CallOkP P call.p ∧ CallOkS P call.s

mutual
/-- a result that speaks of no memory needs none -/
theorem imp_free {c c0 : Nat → Nat → Option Value} {mb : Nat → Option Info} {k : Nat} : ∀ (r : PV) (K : Nat) (v : Value), r.noMem = true → Rep ⟨c, mb⟩ k (impV K r) v → Rep ⟨c0, mb⟩ k (impV K r) v
  | .fr e rows, K, v, _, h => by
    simp only [impV] at h ⊢
    obtain ⟨i, g1, g2, g3, g4, g5⟩ := own_inv h
    exact .own g1 g2 g3 g4 g5
  | .agg cs, K, v, hn, h => by
    simp only [impV] at h ⊢
    obtain ⟨vs, rfl, h2, h3⟩ := agg_inv h
    exact .agg h2 (imp_freeL cs K (fun i => vs.getD i undef) (by simpa [PV.noMem] using hn) h3)
  | .tup cs, K, v, hn, h => by
    simp only [impV] at h ⊢
    obtain ⟨vs, rfl, h2, h3⟩ := tup_inv h
    exact .tup h2 (imp_freeL cs K (fun i => vs.getD i undef) (by simpa [PV.noMem] using hn) h3)
  | .bool b, K, v, hn, h => (h.free (m' := ⟨c0, mb⟩) hn).up (Nat.zero_le _)
  | .int j n, K, v, hn, h => (h.free (m' := ⟨c0, mb⟩) hn).up (Nat.zero_le _)
  | .str s, K, v, hn, h => (h.free (m' := ⟨c0, mb⟩) hn).up (Nat.zero_le _)
  | .v x, K, v, hn, h => (h.free (m' := ⟨c0, mb⟩) hn).up (Nat.zero_le _)
  | .top, K, v, hn, h => (h.free (m' := ⟨c0, mb⟩) hn).up (Nat.zero_le _)
  | .nn, K, v, hn, h => (h.free (m' := ⟨c0, mb⟩) hn).up (Nat.zero_le _)
  | .nilS, K, v, hn, h => (h.free (m' := ⟨c0, mb⟩) hn).up (Nat.zero_le _)
  | .sl _ _ _, K, v, hn, h => (h.free (m' := ⟨c0, mb⟩) hn).up (Nat.zero_le _)
  | .cptr _, K, v, hn, h => by simp [PV.noMem] at hn
  | .own _ _ _ _, K, v, hn, h => by simp [PV.noMem] at hn
  | .ptr _ _ _ _, K, v, hn, h => by simp [PV.noMem] at hn
  | .mp _ _, K, v, hn, h => by simp [PV.noMem] at hn
  | .fn _ _, K, v, hn, h => (h.free (m' := ⟨c0, mb⟩) hn).up (Nat.zero_le _)
theorem imp_freeL {c c0 : Nat → Nat → Option Value} {mb : Nat → Option Info} {k : Nat} : ∀ (cs : List PV) (K : Nat) (f : Nat → Value), PV.noMem.noMemL cs = true →
    (∀ (i : Nat) (p : PV), (impV.impVL K cs)[i]? = some p → Rep ⟨c, mb⟩ k p (f i)) → ∀ (i : Nat) (p : PV), (impV.impVL K cs)[i]? = some p → Rep ⟨c0, mb⟩ k p (f i)
  | [], K, f, _, _, i, p, hp => by simp [impV.impVL] at hp
  | r :: cs, K, f, hn, h, i, p, hp => by
    simp only [PV.noMem.noMemL, Bool.and_eq_true] at hn
    simp only [impV.impVL] at h hp
    cases i with
    | zero => simp at hp; subst hp; exact imp_free r K (f 0) hn.1 (h 0 _ rfl)
    | succ i => exact imp_freeL cs _ (fun i => f (i + 1)) hn.2 (fun i p hp => h (i + 1) p (by simpa using hp)) i p (by simpa using hp)
end

mutual
theorem noMem_rows : ∀ (r : PV), r.noMem = true → ∀ x ∈ impB r, PV.noMem.noMemLL x.rows = true ∧ x.flat = true
  | .fr e rows, h, x, hx => by simp [impB] at hx; subst hx; exact ⟨by simpa [PV.noMem] using h, rfl⟩
  | .agg cs, h, x, hx => noMem_rowsL cs (by simpa [PV.noMem] using h) x (by simpa [impB] using hx)
  | .tup cs, h, x, hx => noMem_rowsL cs (by simpa [PV.noMem] using h) x (by simpa [impB] using hx)
  | .bool _, _, x, hx => by simp [impB] at hx
  | .int _ _, _, x, hx => by simp [impB] at hx
  | .str _, _, x, hx => by simp [impB] at hx
  | .v _, _, x, hx => by simp [impB] at hx
  | .top, _, x, hx => by simp [impB] at hx
  | .nn, _, x, hx => by simp [impB] at hx
  | .nilS, _, x, hx => by simp [impB] at hx
  | .sl _ _ _, _, x, hx => by simp [impB] at hx
  | .cptr _, _, x, hx => by simp [impB] at hx
  | .own _ _ _ _, _, x, hx => by simp [impB] at hx
  | .ptr _ _ _ _, _, x, hx => by simp [impB] at hx
  | .mp _ _, _, x, hx => by simp [impB] at hx
  | .fn _ _, _, x, hx => by simp [impB] at hx
theorem noMem_rowsL : ∀ (l : List PV), PV.noMem.noMemL l = true → ∀ x ∈ impB.impBL l, PV.noMem.noMemLL x.rows = true ∧ x.flat = true
  | [], _, x, hx => by simp [impB.impBL] at hx
  | p :: r, h, x, hx => by
    simp only [PV.noMem.noMemL, Bool.and_eq_true] at h
    simp only [impB.impBL, List.mem_append] at hx
    rcases hx with hx | hx
    · exact noMem_rows p h.1 x hx
    · exact noMem_rowsL r h.2 x hx
end

mutual
theorem imp_flat : ∀ (r : PV), ∀ x ∈ impB r, x.flat = true
  | .fr e rows, x, hx => by simp [impB] at hx; subst hx; rfl
  | .agg cs, x, hx => imp_flatL cs x (by simpa [impB] using hx)
  | .tup cs, x, hx => imp_flatL cs x (by simpa [impB] using hx)
  | .bool _, x, hx => by simp [impB] at hx
  | .int _ _, x, hx => by simp [impB] at hx
  | .str _, x, hx => by simp [impB] at hx
  | .v _, x, hx => by simp [impB] at hx
  | .top, x, hx => by simp [impB] at hx
  | .nn, x, hx => by simp [impB] at hx
  | .nilS, x, hx => by simp [impB] at hx
  | .sl _ _ _, x, hx => by simp [impB] at hx
  | .cptr _, x, hx => by simp [impB] at hx
  | .own _ _ _ _, x, hx => by simp [impB] at hx
  | .ptr _ _ _ _, x, hx => by simp [impB] at hx
  | .mp _ _, x, hx => by simp [impB] at hx
  | .fn _ _, x, hx => by simp [impB] at hx
theorem imp_flatL : ∀ (l : List PV), ∀ x ∈ impB.impBL l, x.flat = true
  | [], x, hx => by simp [impB.impBL] at hx
  | p :: r, x, hx => by
    simp only [impB.impBL, List.mem_append] at hx
    rcases hx with hx | hx
    · exact imp_flat p x hx
    · exact imp_flatL r x hx
end

/-- a result without memory, over less memory -/
theorem RetOk.strip {m m2 : Mem} {w w' : World} {r : PV} {v : Value} (h : RetOk m2 w w' r v) (hm : FrzOk m w) (hn : r.noMem = true) : RetOk m w w' r v := by
  obtain ⟨hb, c', infos, h1, h2, h3, h4, h5, h6, h7⟩ := h
  refine ⟨hb, m.cell, infos, fun _ _ _ h => h, fun _ _ _ h => .inl h, ⟨fun b o u hu => (frz_grow hm hb.block).1 b o u hu, (frz_grow hm hb.block).2⟩, h4, fun j x i hx hi => ?_, h6, fun K mb hmb => imp_free r K v hn (h7 K mb hmb)⟩
  obtain ⟨g1, g2⟩ := h5 j x i hx hi
  obtain ⟨n1, n2⟩ := noMem_rows r hn x (List.mem_of_getElem? hx)
  refine ⟨⟨g1.ver, g1.e, g1.n, g1.rowl, ?_, g1.ne⟩, fun hv => ⟨(g2 hv).1, fun o => frz_none hm o (g2 hv).1⟩⟩
  rcases g1.mem with hv | ⟨hv, cur, ty, a1, a2, a3, a4, a5⟩
  · exact .inl hv
  · refine .inr ⟨hv, cur, ty, a1, a2, a3, a4, fun rr row j p hr hp => ?_⟩
    obtain ⟨u, e1, e2, e3⟩ := a5 rr row j p hr hp
    refine ⟨u, e1, e2, ?_⟩
    have hnm := noMemL_all (noMemLL_all n1 row (List.mem_of_getElem? hr)) j p hp
    exact (e3.free hnm).up (Nat.zero_le _)

/-- the fresh slices of a result become blocks of the call's own -/
theorem PurOut.import {B k : Nat} {m : Mem} {w w' : World} {bl BL : Blks} {r : PV} {v : Value} (hin : PurIn B k m w bl (impB r) BL) (h : RetOk m w w' r v) :
    ∃ m', PurOut B k m w bl.length (impB r).length BL (impV bl.length r) v m' w' (k + bl.length + (impB r).length) := by
  obtain ⟨hb, c', infos, h1, h2, h3, h4, h5, h6, h7⟩ := h
  let mb : Nat → Option Info := fun id => if bl.length ≤ id ∧ id < bl.length + infos.length then infos[id - bl.length]? else m.blk id
  have hmb : ∀ (j : Nat) (i : Info), infos[j]? = some i → mb (bl.length + j) = some i := fun j i hi => by
    have hlt := (List.getElem?_eq_some_iff.1 hi).1
    simp only [mb]
    rw [if_pos (by omega), Nat.add_sub_cancel_left]; exact hi
  have hk : Keeps k m ⟨c', mb⟩ := ⟨h1, fun b i hi => by
    by_cases hc : bl.length ≤ b ∧ b < bl.length + infos.length
    · have := hin.fresh (b - bl.length) (by omega)
      rw [show bl.length + (b - bl.length) = b by omega, hi] at this
      cases this
    · simp only [mb]; rw [if_neg hc]; exact hi⟩
  refine ⟨⟨c', mb⟩, (h7 _ mb hmb).up (by omega), hk, by omega, ⟨fun b o u hu => h3.1 b o u hu, h3.2⟩, ?_, hb, h2, fun id => ?_, fun j hj => ?_⟩
  · refine hin.own.ext hk (by omega) hin.hB hb.block h2 (fun id x i hx hi => ?_)
    by_cases hc : bl.length ≤ id ∧ id < bl.length + infos.length
    · right
      simp only [mb] at hi
      rw [if_pos hc] at hi
      have hxs : ∃ y, (impB r)[id - bl.length]? = some y := ⟨_, List.getElem?_eq_getElem (by omega)⟩
      obtain ⟨y, hy⟩ := hxs
      have hyx : y = x := by
        have := hin.sub id (some y) (by
          rw [List.getElem?_append_right hc.1, List.getElem?_map, hy]; rfl)
        rw [hx] at this
        simpa using this.symm
      subst hyx
      obtain ⟨g1, g2⟩ := h5 _ y i hy hi
      refine ⟨.inl <| g1.mono ⟨fun _ _ _ h => h, fun b j hb => absurd hb (by omega)⟩ (Nat.zero_le _) (fun _ => rfl), fun hv => ⟨(g2 hv).1, (g2 hv).2, fun id' x' i' hx' hi' hn hv' hg => ?_⟩⟩
      by_cases hc' : bl.length ≤ id' ∧ id' < bl.length + infos.length
      · simp only [mb] at hi'
        rw [if_pos hc'] at hi'
        have := h6 _ i' _ i hi' hi hv' hv hg
        omega
      · simp only [mb] at hi'
        rw [if_neg hc', hn] at hi'
        cases hi'
    · left
      simp only [mb] at hi
      rwa [if_neg hc] at hi
  · by_cases hc : bl.length ≤ id ∧ id < bl.length + infos.length
    · right; omega
    · left; simp only [mb]; rw [if_neg hc]
  · have hlt : j < infos.length := by omega
    show mb (bl.length + j) ≠ none
    rw [hmb j _ (List.getElem?_eq_getElem hlt)]
    simp

mutual
theorem unfr_rep {c c2 : Nat → Nat → Option Value} {mb mb2 : Nat → Option Info} {w' : World} {k : Nat} (hc : ∀ b o u, c b o = some u → c2 b o = some u) :
    ∀ (r : PV) (K : Nat) (v : Value), (unfr r).lt 0 = true → (∀ (j : Nat) (x : Blk), (impB r)[j]? = some x → ∃ i, mb (K + j) = some i ∧ BlkAt ⟨c, noBlk⟩ 0 w' i x ∧ (i.virt = false → ∀ o u, w'.cell? ⟨i.g, o, none⟩ = some u → u.oneCell' = true → c2 i.g o = some u)) →
      Rep ⟨c, mb⟩ k (impV K r) v → Rep ⟨c2, mb2⟩ 0 (unfr r) v
  | .fr e rows, K, v, _, hb, h => by
    simp only [impV, unfr] at h ⊢
    obtain ⟨i, hi, hat, hcell⟩ := hb 0 _ rfl
    obtain ⟨i', g1, g2, g3, g4, g5⟩ := own_inv h
    have : mb K = some i := by simpa using hi
    simp only at g2
    rw [this] at g2
    cases g2
    have hs := sl_of_own (m' := ⟨c2, mb2⟩) hat (g5 (by rw [hat.ver])) (by simp) rfl hat.rowl (fun cur ty hv hg rr row j q hr hj => by
      rcases hat.mem with ⟨hv', _⟩ | ⟨_, cur', ty', m1, m2, m3, m4, m5⟩
      · rw [hv] at hv'; cases hv'
      · rw [hg] at m1
        cases m1
        obtain ⟨u, hu, h1, hrep⟩ := m5 rr row j q hr hj
        refine ⟨u, hu, hcell hv _ u (by simpa [World.cell?, hg] using hu) h1, ?_⟩
        simp only [if_true] at hrep
        exact hrep.re hc)
    simpa using hs
  | .agg cs, K, v, hl, hb, h => by
    simp only [impV, unfr] at h ⊢
    obtain ⟨vs, rfl, h2, h3⟩ := agg_inv h
    have := unfr_repL (mb2 := mb2) hc cs K (fun i => vs.getD i undef) (by simpa [unfr, PV.lt] using hl) (by simpa [impB] using hb) h3
    exact .agg (by rw [this.1, ← h2]; exact this.2.1) this.2.2
  | .tup cs, K, v, hl, hb, h => by
    simp only [impV, unfr] at h ⊢
    obtain ⟨vs, rfl, h2, h3⟩ := tup_inv h
    have := unfr_repL (mb2 := mb2) hc cs K (fun i => vs.getD i undef) (by simpa [unfr, PV.lt] using hl) (by simpa [impB] using hb) h3
    exact .tup (by rw [this.1, ← h2]; exact this.2.1) this.2.2
  | .bool b, K, v, hl, hb, h => (h.down hl).re hc
  | .int j n, K, v, hl, hb, h => (h.down hl).re hc
  | .str s, K, v, hl, hb, h => (h.down hl).re hc
  | .v x, K, v, hl, hb, h => (h.down hl).re hc
  | .top, K, v, hl, hb, h => (h.down hl).re hc
  | .nn, K, v, hl, hb, h => (h.down hl).re hc
  | .nilS, K, v, hl, hb, h => (h.down hl).re hc
  | .sl _ _ _, K, v, hl, hb, h => (h.down hl).re hc
  | .cptr _, K, v, hl, hb, h => (h.down hl).re hc
  | .own _ _ _ _, K, v, hl, hb, h => (h.down hl).re hc
  | .ptr _ _ _ _, K, v, hl, hb, h => (h.down hl).re hc
  | .mp _ _, K, v, hl, hb, h => (h.down hl).re hc
  | .fn _ _, K, v, hl, hb, h => (h.down hl).re hc
theorem unfr_repL {c c2 : Nat → Nat → Option Value} {mb mb2 : Nat → Option Info} {w' : World} {k : Nat} (hc : ∀ b o u, c b o = some u → c2 b o = some u) :
    ∀ (cs : List PV) (K : Nat) (f : Nat → Value), PV.lt.ltL 0 (unfr.unfrL cs) = true → (∀ (j : Nat) (x : Blk), (impB.impBL cs)[j]? = some x → ∃ i, mb (K + j) = some i ∧ BlkAt ⟨c, noBlk⟩ 0 w' i x ∧ (i.virt = false → ∀ o u, w'.cell? ⟨i.g, o, none⟩ = some u → u.oneCell' = true → c2 i.g o = some u)) →
      (∀ (i : Nat) (p : PV), (impV.impVL K cs)[i]? = some p → Rep ⟨c, mb⟩ k p (f i)) → (unfr.unfrL cs).length = cs.length ∧ cs.length = (impV.impVL K cs).length ∧ ∀ (i : Nat) (p : PV), (unfr.unfrL cs)[i]? = some p → Rep ⟨c2, mb2⟩ 0 p (f i)
  | [], K, f, _, _, _ => ⟨rfl, rfl, fun i p hp => by simp [unfr.unfrL] at hp⟩
  | r :: cs, K, f, hl, hb, h => by
    simp only [unfr.unfrL, PV.lt.ltL, Bool.and_eq_true] at hl
    simp only [impV.impVL] at h
    simp only [impB.impBL] at hb
    have h1 := unfr_rep (mb2 := mb2) hc r K (f 0) hl.1 (fun j x hx => hb j x (by rw [List.getElem?_append_left (List.getElem?_eq_some_iff.1 hx).1]; exact hx)) (h 0 _ rfl)
    have h2 := unfr_repL (mb2 := mb2) hc cs (K + (impB r).length) (fun i => f (i + 1)) hl.2 (fun j x hx => by
      have := hb ((impB r).length + j) x (by rw [List.getElem?_append_right (by omega), Nat.add_sub_cancel_left]; exact hx)
      rw [← Nat.add_assoc] at this
      exact this) (fun i p hp => h (i + 1) p (by simpa using hp))
    refine ⟨by simp [unfr.unfrL, h2.1], by simp [impV.impVL, h2.2.1], fun i p hp => ?_⟩
    simp only [unfr.unfrL] at hp
    cases i with
    | zero => simp at hp; subst hp; exact h1
    | succ i => exact h2.2.2 i p (by simpa using hp)
end

/-- the fresh slices of a result are never written -/
theorem PurOut.unfr {B k : Nat} {m : Mem} {w w' : World} {bl BL : Blks} {r : PV} {v : Value} (hin : PurIn B k m w bl [] BL) (h : RetOk m w w' r v) (hlt : (unfr r).lt 0 = true) :
    ∃ m', PurOut B k m w bl.length 0 BL (unfr r) v m' w' k := by
  obtain ⟨hb, c', infos, h1, h2, h3, h4, h5, h6, h7⟩ := h
  let G : Nat → Prop := fun b => ∃ (j : Nat) (i : Info), infos[j]? = some i ∧ i.virt = false ∧ i.g = b
  have hcel : ∀ b o u, addCells c' w' G b o = some u → m.cell b o = some u ∨ w.heap.size ≤ b := fun b o u hu => by
    rcases addCells_from hu with hu | ⟨j, i, hi, hv, rfl⟩
    · exact h2 b o u hu
    · have hlt : j < (impB r).length := by rw [← h4]; exact (List.getElem?_eq_some_iff.1 hi).1
      exact .inr ((h5 j _ i (List.getElem?_eq_getElem hlt) hi).2 hv).1
  have hk : Keeps k m ⟨addCells c' w' G, m.blk⟩ := ⟨fun b o u hu => addCells_old (h1 b o u hu), fun _ _ h => h⟩
  have hrep := h7 0 (fun j => infos[j]?) (fun j i hi => by simpa using hi)
  refine ⟨⟨addCells c' w' G, m.blk⟩, (unfr_rep (c := c') (c2 := addCells c' w' G) (mb2 := m.blk) (w' := w') (fun b o u hu => addCells_old hu) r 0 v hlt (fun j x hx => ?_) hrep).up (Nat.zero_le _), hk, Nat.le_refl _, addCells_frz h3 _, ?_, hb, hcel, fun id => .inl rfl, fun j hj => absurd hj (by omega)⟩
  · have hlt : j < infos.length := by rw [h4]; exact (List.getElem?_eq_some_iff.1 hx).1
    have hi := List.getElem?_eq_getElem hlt
    obtain ⟨g1, g2⟩ := h5 j x _ hx hi
    exact ⟨infos[j], by simp [hi], g1, fun hv o u hu h1 => addCells_new (fun u hu => (h3.1 _ _ u hu).1) ⟨j, _, hi, hv, rfl⟩ hu h1⟩
  · exact hin.own.ext hk (Nat.le_refl _) hin.hB hb.block hcel (fun id x i hx hi => .inl hi)

end Go.Proofs.Ytlnaibkpmklkiaa
