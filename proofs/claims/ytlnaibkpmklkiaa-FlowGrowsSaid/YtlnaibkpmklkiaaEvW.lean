/- Code and functions. -/
import Derived.Test.YtlnaibkpmklkiaaEvV
namespace Go.Proofs.Ytlnaibkpmklkiaa
open Go Go.RowKit
set_option linter.unusedSectionVars false
variable [Bs]
set_option linter.unusedVariables false
set_option linter.unusedSimpArgs false

section
variable {P : Program} {call : Cl} {own : List Nat}

/-- how many are not done yet -/
def undone (listed : Array Bool) (n : Nat) : Nat := (List.range n).countP fun x => !listed.getD x false

theorem countP_set {listed : Array Bool} {j : Nat} (hj : j < listed.size) (hu : ¬ lst listed j) : ∀ n, (List.range n).countP (fun x => !(listed.setIfInBounds j true).getD x false) + (if j < n then 1 else 0) = (List.range n).countP fun x => !listed.getD x false
  | 0 => by simp
  | n + 1 => by
    have ih := countP_set hj hu n
    rw [List.range_succ, List.countP_append, List.countP_append]
    generalize (List.range n).countP (fun x => !(listed.setIfInBounds j true).getD x false) = A at ih ⊢
    generalize (List.range n).countP (fun x => !listed.getD x false) = A2 at ih ⊢
    by_cases e : j = n
    · subst e
      have h1 : listed.getD j false = false := by simpa [lst] using hu
      have h2 : (listed.setIfInBounds j true).getD j false = true := by simp [hj]
      rw [if_neg (Nat.lt_irrefl _)] at ih
      rw [if_pos (Nat.lt_succ_self _)]
      simp only [List.countP_cons, List.countP_nil, h1, h2, Bool.not_true, Bool.not_false, Bool.false_eq_true, if_false, if_true]
      omega
    · have h1 : (listed.setIfInBounds j true).getD n false = listed.getD n false := getD_set_ne false e
      simp only [List.countP_cons, List.countP_nil, h1]
      by_cases c : j < n
      · rw [if_pos c] at ih
        rw [if_pos (show j < n + 1 by omega)]
        omega
      · rw [if_neg c] at ih
        rw [if_neg (show ¬ j < n + 1 by omega)]
        omega

theorem any_draw (hc : CallOk P call) {ops : Array Oper} {al : List AOper} {S : Nat → St} {e B N : Nat} {soft : List Nat} (R : Reg P call own ops al S e soft) (hN : N ≤ (S 0).bl.length) {Q : Exit → Act → World → Prop} {m0 : Mem} {w0 : World} {a0 : Act}
    (hq : ∀ m' k' w' a', Fin B N m0 w0 a0 (S ops.size) m' k' w' a' → Q .normal a' w') :
    ∀ (fuel : Nat) (listed : Array Bool) (m : Mem) (k : Nat) (w : World) (a : Act), undone listed ops.size ≤ fuel → Inv P call own ops al S e B listed m k w a.tmps → Below B w0 w → Grow B N m0 m → a.defers = a0.defers → N ≤ k →
      wpAny P .any ops Q fuel listed a w := by
  -- when all are done
  have done : ∀ (listed : Array Bool) (m : Mem) (k : Nat) (w : World) (a : Act), (∀ x, x < ops.size → lst listed x) → Inv P call own ops al S e B listed m k w a.tmps → Below B w0 w → Grow B N m0 m → a.defers = a0.defers → N ≤ k → Q .normal a w := by
    intro listed m k w a hall I hb hg hd hNk
    have hmo := (R.mono 0 ops.size (by omega)).1
    rw [Nat.zero_add] at hmo
    have hls : (S ops.size).sl.length = (S 0).sl.length := by have := (R.mono 0 ops.size (by omega)).2; simpa using this
    refine hq m k w a ⟨⟨by rw [I.size, hls], fun t => ?_, ⟨I.frz, ?_, I.hB, I.fresh2⟩, Nat.le_trans hN hmo, hNk⟩, hb, hg, hd⟩
    · obtain ⟨i, hi, h1, h2⟩ := I.slot t
      rw [R.same2 (i := ops.size) (j := i) (Nat.le_refl _) hi (fun x ax hx hxd => by
        have hxl : x < ops.size := by rw [← R.len]; exact (List.getElem?_eq_some_iff.1 hx).1
        exact ⟨fun _ => (h1 x ax hx hxd).1 (hall x hxl), fun _ => hxl⟩)]
      exact h2
    · obtain ⟨f, f1, f2, f3, f4⟩ := I.own
      rcases Nat.lt_or_ge f ops.size with h | h
      · exfalso
        obtain ⟨af, haf, hfe⟩ := f3 h
        have := (f2 f af haf hfe).1 (hall f h)
        omega
      · rw [show f = ops.size by omega] at f4
        exact f4
  -- when none is ready, all are done
  have ready : ∀ (listed : Array Bool) (m : Mem) (k : Nat) (w : World) (tmps : Array Value), Inv P call own ops al S e B listed m k w tmps → Region.ready .any ops listed = [] → ∀ n x, x < n → x < ops.size → lst listed x := by
    intro listed m k w tmps I hr n
    induction n with
    | zero => intro x hx; omega
    | succ n ih =>
      intro x hx hxs
      by_cases hxn : x < n
      · exact ih x hxn hxs
      · by_cases hl : lst listed x
        · exact hl
        · exfalso
          have hox := Array.getElem?_eq_getElem hxs
          have : x ∈ Region.ready .any ops listed := by
            rw [mem_ready]
            refine ⟨?_, _, hox, fun ed he hb => ?_⟩
            · have hxl : x < listed.size := by rw [I.lsize]; exact hxs
              unfold lst at hl
              rw [Array.getD_eq_getD_getElem?, Array.getElem?_eq_getElem hxl] at hl ⊢
              simpa using hl
            · have hlt := R.edge x _ hox ed (by simpa using he) hb
              exact ih ed.on (by omega) (by omega)
          rw [hr] at this
          cases this
  have turn : ∀ (listed : Array Bool) (m : Mem) (k : Nat) (w : World) (tmps : Array Value), Inv P call own ops al S e B listed m k w tmps → ∀ i ∈ Region.ready .any ops listed, ∃ o ao, Turn ops al listed i o ao := by
    intro listed m k w tmps I i hi
    obtain ⟨h1, o, ho, h2⟩ := mem_ready.1 hi
    obtain ⟨ao, ha, _⟩ := R.op i o ho
    have hil : i < listed.size := by rw [I.lsize]; exact (Array.getElem?_eq_some_iff.1 ho).1
    refine ⟨o, ao, ho, ha, ?_, fun ed he hb => h2 ed (by simpa using he) hb⟩
    unfold lst
    rw [Array.getD_eq_getD_getElem?, Array.getElem?_eq_getElem hil] at h1 ⊢
    simpa using h1
  intro fuel
  induction fuel with
  | zero =>
    intro listed m k w a hu I hb hg hd hNk
    have hall : ∀ x, x < ops.size → lst listed x := fun x hx => by
      unfold undone at hu
      have h0 : (List.range ops.size).countP (fun x => !listed.getD x false) = 0 := by omega
      rw [List.countP_eq_zero] at h0
      have := h0 x (by simpa using hx)
      simpa [lst] using this
    have hnil : Region.ready .any ops listed = [] := by
      cases hr : Region.ready .any ops listed with
      | nil => rfl
      | cons i r =>
        exfalso
        obtain ⟨o, ao, T⟩ := turn listed m k w a.tmps I i (by rw [hr]; simp)
        exact T.un (hall i T.lt)
    exact ⟨hnil, done listed m k w a hall I hb hg hd hNk⟩
  | succ fuel ih =>
    intro listed m k w a hu I hb hg hd hNk
    refine ⟨fun hr => done listed m k w a (fun x hx => ready listed m k w a.tmps I hr (x + 1) x (by omega) hx) I hb hg hd hNk, fun i hi => ?_⟩
    obtain ⟨o, ao, T⟩ := turn listed m k w a.tmps I i hi
    refine turn_step hc R T I hNk (fun m' k' w' a' I' hb' hg' hd' hNk' => ih _ m' k' w' a' ?_ I' (hb.trans hb') (hg.trans hg') (hd'.trans hd) hNk')
    have := countP_set (j := i) (by rw [I.lsize]; exact T.lt) T.un ops.size
    rw [if_pos T.lt] at this
    unfold undone at hu ⊢
    omega

theorem region_draw (hc : CallOk P call) {id : Nat} {ops : Array Oper} {al : List AOper} {B N : Nat} {Q : Exit → Act → World → Prop} {st st' : St} {a : Act} {w : World} {m : Mem} {k : Nat} {soft : List Nat} (hd : digOps P own ops ops.toList = some al) (hk : drawOk P soft ops al = true) (hsf : soft = [] ∨ softChk call soft al st = true)
    (he : evOps call al st = some st') (hs : StOk B N m k w st a.tmps) (hq : ∀ m' k' w' a', Fin B N m w a st' m' k' w' a' → Q .normal a' w') : (Code.region id ops true).wp P Q a w := by
  unfold drawOk at hk
  simp only [Bool.and_eq_true] at hk
  obtain ⟨⟨hm, hp⟩, hed⟩ := hk
  obtain ⟨hlen, hop⟩ := digOps_get hd
  obtain ⟨S, s0, s1, s2⟩ := evOps_trace he
  have hlen' : al.length = ops.size := by simpa using hlen
  rw [hlen'] at s1
  have R : Reg P call own ops al S 0 soft := by
    refine ⟨hlen', fun i o ho => hop i o (by simpa using ho), s2, fun p q o1 o2 a1 a2 hpq h1 h2 h3 h4 => ?_, ?_, fun i o ho ed hed' hb => ?_⟩
    · have z : ∀ (x : Nat) (o : Oper) (a : AOper), ops[x]? = some o → al[x]? = some a → (ops.toList.zip al)[x]? = some (o, a) := fun x o a h h' => by
        rw [List.getElem?_zip_eq_some]
        exact ⟨by simpa using h, h'⟩
      have := pairsGo_spec hp p q _ _ hpq (z p o1 a1 h1 h3) (z q o2 a2 h2 h4)
      simpa using this
    · rcases hsf with h | h
      · intro j ao f _ _ hs _
        rw [h] at hs
        simp [hasN] at hs
      · exact soft_reg h S s0 s2
    · have := edgesOk_spec hed i o (by simpa using ho) ed hed' hb
      omega
  have hl0 : ∀ x, ¬ lst (Array.replicate ops.size false) x := fun x => by
    unfold lst
    rw [Array.getD_eq_getD_getElem?, Array.getElem?_replicate]
    split <;> simp
  refine wp_region_any hm (any_draw (B := B) (N := N) hc R (by rw [s0]; exact hs.nb) (m0 := m) (w0 := w) (a0 := a) (by rw [s1]; exact hq) ops.size _ m k _ a ?_ ?_ ((Below.refl _ _).drew) (Grow.refl _ _ _) rfl hs.nk)
  · exact Nat.le_trans List.countP_le_length (by simp)
  · have hdrew : ∀ (BL : Blks), Owns B m k w BL → Owns B m k w.drew BL := fun BL h => ⟨fun id x i hx hi => (h.at_ id x i hx hi).mono (MLe.refl _ _) (Nat.le_refl _) (fun _ => rfl), h.base, h.inj⟩
    obtain ⟨f, n1, n2, n3, n4⟩ := R.nextE ops.size 0 (by omega)
    have hgrow : Owns B m k w (S f).bl := by
      obtain ⟨ns, hns⟩ := R.pre 0 f (by omega) (fun x ao h1 h2 => n3 x ao h1 (by omega))
      rw [Nat.zero_add, s0] at hns
      rw [hns]
      exact hs.eff.own.more hs.eff.fresh
    refine ⟨by simp, fun x o hx hl => absurd hl (hl0 x), by rw [s0]; exact hs.size, fun t => ⟨0, by omega, fun x ao _ _ => ⟨fun h => absurd h (hl0 x), fun h => by omega⟩, by rw [s0]; exact hs.sl t⟩, ⟨fun b o u hu => hs.eff.frz.1 b o u hu, hs.eff.frz.2⟩, hs.eff.hB, ⟨f, n2, fun x ao hx hxe => ⟨fun h => absurd h (hl0 x), fun h => by have := n3 x ao (by omega) h hx; rw [hxe] at this; cases this⟩, n4, hdrew _ hgrow⟩, fun x hx _ id h1 h2 => ?_, fun id hid => ?_⟩
    · have := (R.mono 0 x (by omega)).1
      rw [Nat.zero_add, s0] at this
      exact hs.eff.fresh id (by omega)
    · have := (R.mono 0 ops.size (by omega)).1
      rw [Nat.zero_add, s0] at this
      exact hs.eff.fresh id (by omega)

end
end Go.Proofs.Ytlnaibkpmklkiaa
