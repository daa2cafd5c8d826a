/- A call of a function, as an operation; all operations that change no block. -/
import Derived.Test.YtlnaibkpmklkiaaEvMa
namespace Go.Proofs.Ytlnaibkpmklkiaa
open Go Go.RowKit
set_option linter.unusedSectionVars false
variable [Bs]
set_option linter.unusedVariables false
set_option linter.unusedSimpArgs false

section
variable {P : Program} {call : Cl} {own : List Nat} {o : Oper}

theorem cls_lt {n : Nat} {bl : Blks} {p : PV} (h : p.lt 0 = true) : cls (n + 1) bl p = some p := by
  unfold cls
  split
  · rfl
  · rename_i hn; exact absurd h hn
theorem thinL_get : ∀ {ps qs : List PV} (i : Nat) {p q : PV}, thinL ps qs = true → ps[i]? = some p → qs[i]? = some q → p.lt 0 = true ∨ q.noMem = true
  | [], _, i, p, q, _, h, _ => by simp at h
  | _ :: _, [], i, p, q, _, _, h => by simp at h
  | a :: ps, b :: qs, 0, p, q, h, h1, h2 => by
    simp at h1 h2; subst h1; subst h2
    simp only [thinL, Bool.and_eq_true, Bool.or_eq_true] at h
    exact h.1
  | a :: ps, b :: qs, i + 1, p, q, h, h1, h2 => by
    simp only [thinL, Bool.and_eq_true] at h
    exact thinL_get i h.2 (by simpa using h1) (by simpa using h2)

theorem call_main (hc : CallOk P call) {B k : Nat} {m : Mem} {w : World} {bl BL : Blks} {ow : Bool} {g : Nat} {ps : List PV} {vs : Array Value} {p : PV} {ns : List Blk} (h : callP call.p bl ow g ps = some (p, ns)) (hin : PurIn B k m w bl ns BL)
    (hl : ps.length = vs.size) (hr : ∀ (i : Nat) (p : PV), ps[i]? = some p → Rep m k p (vs.getD i undef)) :
    CallsX P g vs w fun e w' => ∃ v, e = .returned v ∧ ∃ m' k', PurOut B k m w bl.length ns.length BL p v m' w' k' := by
  unfold callP at h
  have fin : ∀ (r : PV), (if ow = true then some (impV bl.length r, impB r) else if (unfr r).lt 0 = true then some (unfr r, []) else none) = some (p, ns) → ∀ w' v, RetOk m w w' r v →
      ∃ m' k', PurOut B k m w bl.length ns.length BL p v m' w' k' := by
    intro r hr w' v hret
    split at hr
    · cases hr
      obtain ⟨m', hm'⟩ := PurOut.import hin hret
      exact ⟨m', _, hm'⟩
    · split at hr
      · rename_i hlt
        cases hr
        obtain ⟨m', hm'⟩ := PurOut.unfr hin hret hlt
        exact ⟨m', _, hm'⟩
      · cases hr
  split at h
  · rename_i hlt
    split at h
    · rename_i r hcr
      have hcall := hc.1 _ _ _ hcr
      refine (hcall m w vs hl (fun i p hp => (hr i p hp).down (ltL_all hlt i p hp)) hin.frz).mono ?_
      rintro e w' ⟨v, he, hret⟩
      exact ⟨v, he, fin r h w' v hret⟩
    · cases h
  · split at h
    · rename_i qs hqs
      split at h
      · rename_i r hcr
        split at h
        · rename_i hnmt
          have hcall := hc.1 _ _ _ hcr
          obtain ⟨q1, q2⟩ := mapO_spec hqs
          have hsub : ∀ (j : Nat) (x : Option Blk), bl[j]? = some x → BL[j]? = some x := fun j x hx => hin.old hx
          rcases (Bool.or_eq_true _ _).mp hnmt with hnm | hth
          rotate_left
          · refine (hcall m w vs (q1.trans hl) (fun i q hq => ?_) hin.frz).mono ?_
            · obtain ⟨p0, hp0, hcl⟩ := q2 i q hq
              rcases thinL_get i hth hp0 hq with hlt | hnm
              · have : q = p0 := by
                  rw [show clsFuel = 19 + 1 from rfl, cls_lt hlt] at hcl
                  exact (Option.some.inj hcl).symm
                subst this
                exact (hr i _ hp0).down hlt
              · exact (cls_rep hin.frz hin.own hsub clsFuel p0 q _ k hcl (hr i p0 hp0)).free hnm
            · rintro e w' ⟨v, he, hret⟩
              exact ⟨v, he, fin r h w' v hret⟩
          refine (hcall (lend m w BL) w vs (q1.trans hl) (fun i q hq => ?_) (addCells_frz (mb := m.blk) hin.frz _)).mono ?_
          · obtain ⟨p0, hp0, hcl⟩ := q2 i q hq
            exact cls_rep hin.frz hin.own hsub clsFuel p0 q _ k hcl (hr i p0 hp0)
          · rintro e w' ⟨v, he, hret⟩
            exact ⟨v, he, fin r h w' v (hret.strip hin.frz hnm)⟩
        · cases h
      · cases h
    · cases h

theorem run_callFunc {g : Nat} {fn : Func} {args : Array Value} {w : World} (hf : P.funcs[g]? = some fn) (hb : fn.body.isSome = true) (hn : fn.name ≠ "runtime.NumGoroutine") : (callFunc g args).run P w = .ok (.enter g args) w := by
  have h1 : (fn.name == "runtime.NumGoroutine") = false := by simpa using hn
  have h2 : fn.body.isNone = false := by cases hx : fn.body <;> simp_all
  simp only [callFunc, Sem.run_bind, run_program, Result.andThen_ok, hf, h1, Bool.false_eq_true, if_false, h2]
  rfl

theorem exec_value {c : Call} {f : Operand} {a : Act} {w : World} {g : Nat} {caps : Array Value} (hcal : c.callee = .value f) (h : o.op = .call c) (hv : a.eval f = .func (.func g) #[] caps)
    (hfn : ∃ fn, P.funcs[g]? = some fn ∧ fn.body.isSome = true ∧ fn.name ≠ "runtime.NumGoroutine") :
    (execOp a.eval o).run P w = .ok (.enter g (c.args.map a.eval ++ caps)) w := by
  obtain ⟨fn, h1, h2, h3⟩ := hfn
  simp only [execOp, h, resolve, hcal, hv, Deferred.ofValue, Sem.run_bind, Sem.run_pure, Result.andThen_ok, invoke]
  rw [run_callFunc h1 h2 h3]
  simp

theorem upon_calls {a : Act} {w : World} {next : Act → World → Prop} {Q : Exit → Act → World → Prop} {g : Nat} {args : Array Value} (h : (execOp a.eval o).run P w = .ok (.enter g args) w)
    (hc : Calls P g args w fun e w' => ∃ v, e = .returned v ∧ next (a.put o.dst v) w') : o.wp P a w next Q := by
  unfold Oper.wp
  rw [h, Oper.upon_enter]
  refine hc.mono ?_
  rintro e w' ⟨v, rfl, hn⟩
  exact hn

/-- a call that ends here and now -/
theorem exec_now {c : Call} {f : Operand} {a : Act} {w : World} {g : Nat} {caps : Array Value} {v : Value} (hcal : c.callee = .value f) (h : o.op = .call c) (hv : a.eval f = .func (.func g) #[] caps)
    (hrun : (callFunc g (c.args.map a.eval ++ caps)).run P w = .ok (.value v) w) :
    (execOp a.eval o).run P w = .ok (.value v) w := by
  simp only [execOp, h, resolve, hcal, hv, Deferred.ofValue, Sem.run_bind, Sem.run_pure, Result.andThen_ok, invoke]
  simpa using hrun

theorem callsX_upon {c : Call} {f : Operand} {a : Act} {w : World} {g : Nat} {caps : Array Value} {next : Act → World → Prop} {Q : Exit → Act → World → Prop} (hcal : c.callee = .value f) (h : o.op = .call c) (hv : a.eval f = .func (.func g) #[] caps)
    (hc : CallsX P g (c.args.map a.eval ++ caps) w fun e w' => ∃ v, e = .returned v ∧ next (a.put o.dst v) w') : o.wp P a w next Q := by
  rcases hc with ⟨hfn, hc⟩ | ⟨_, v, hrun, v', he, hn⟩
  · exact upon_calls (exec_value hcal h hv hfn) hc
  · cases he
    exact wp_of_run (exec_now hcal h hv hrun) hn

theorem pur_call (hc : CallOk P call) {c : Call} {f : Operand} (h : o.op = .call c) (hcal : c.callee = .value f) : PurSound P call own o := by
  intro ao B k m w sl bl BL a p ns next Q hd he hl hin hn
  simp only [digOp, h, hcal] at hd
  have hopt : ∀ t, Operand.tmp t ∈ c.args.toList → Operand.tmp t ∈ o.op.operands := fun t ht => by
    rw [h]; simp only [Op.operands, Call.operands, hcal]
    simp only [Array.mem_append]
    exact .inr (by simpa using ht)
  split at hd
  · rename_i args ha
    obtain ⟨h1, h2⟩ := opds (m := m) (k := k) (sl := sl) (a := a) c.args.toList args (fun t ht => hl t (hopt t ht)) ha
    have hget : ∀ (i : Nat), (c.args.map a.eval).getD i undef = (c.args.toList.map a.eval).getD i undef := fun i => by rw [getD_toList]; simp
    have hsz : (args.map (·.ev sl)).length = (c.args.map a.eval).size := by simp [h1]
    cases f with
    | func g =>
      simp only [digCall] at hd
      split at hd
      · cases hd
        simp [evPur] at he
      cases hd
      simp only [evPur] at he
      have hcall := call_main hc he hin hsz (fun i p hp => by rw [hget]; exact h2 i p hp)
      refine callsX_upon (caps := #[]) hcal h rfl ?_
      rw [Array.append_empty]
      refine hcall.mono ?_
      rintro e w' ⟨v, he, m', k', hout⟩
      exact ⟨v, he, hn v m' w' k' hout⟩
    | tmp t =>
      simp only [digCall] at hd
      cases hd
      simp only [evPur, AO.ev] at he
      have rf : Rep m k (sl.getD t .top) (a.eval (.tmp t)) := hl t (by rw [h]; simp [Op.operands, Call.operands, hcal])
      split at he
      · rename_i g caps hfv
        rw [hfv] at rf
        obtain ⟨vs, e1, e2, e3⟩ := fn_inv rf
        have hcall := call_main (vs := c.args.map a.eval ++ vs) hc he hin (by simp [h1, e2]) (fun i p hp => by
          by_cases hi : i < args.length
          · rw [List.getElem?_append_left (by simpa using hi)] at hp
            have := h2 i p hp
            rw [← hget] at this
            rw [Array.getD_eq_getD_getElem?] at this ⊢
            rw [Array.getElem?_append_left (by rw [← hsz]; simpa using hi)]
            exact this
          · rw [List.getElem?_append_right (by simpa using Nat.le_of_not_lt hi)] at hp
            have := e3 _ p hp
            rw [Array.getD_eq_getD_getElem?] at this ⊢
            rw [Array.getElem?_append_right (by rw [← hsz]; simpa using Nat.le_of_not_lt hi), ← hsz]
            exact this)
        refine callsX_upon (caps := vs) hcal h e1 (hcall.mono ?_)
        rintro e w' ⟨v, he, m', k', hout⟩
        exact ⟨v, he, hn v m' w' k' hout⟩
      · cases he
    | const v => simp [digCall] at hd
    | global g => simp [digCall] at hd
  · cases hd

/-- every operation that changes no block does what its pure reading says -/
theorem pur_sound (hc : CallOk P call) (o : Oper) : PurSound P call own o := by
  intro ao B k m w sl bl BL a p ns next Q hd he hl hin hn
  cases h : o.op with
  | move x => exact pur_mov (.inl h) ao B k m w sl bl BL a p ns next Q hd he hl hin hn
  | assign x =>
    cases hx : isNilC x
    · exact pur_mov (.inr ⟨h, hx⟩) ao B k m w sl bl BL a p ns next Q hd he hl hin hn
    · exact pur_nilv h hx ao B k m w sl bl BL a p ns next Q hd he hl hin hn
  | pick c x y => exact pur_pick h ao B k m w sl bl BL a p ns next Q hd he hl hin hn
  | alloc t => exact pur_alloc h ao B k m w sl bl BL a p ns next Q hd he hl hin hn
  | box t x => exact pur_box h ao B k m w sl bl BL a p ns next Q hd he hl hin hn
  | build t ps => exact pur_build h ao B k m w sl bl BL a p ns next Q hd he hl hin hn
  | buildSlice t n ps => exact pur_bslice h ao B k m w sl bl BL a p ns next Q hd he hl hin hn
  | load t x => exact pur_load h ao B k m w sl bl BL a p ns next Q hd he hl hin hn
  | nilCheck x => exact pur_nilck h ao B k m w sl bl BL a p ns next Q hd he hl hin hn
  | binOp op t x y t2 => exact pur_bin h ao B k m w sl bl BL a p ns next Q hd he hl hin hn
  | unOp op t x => exact pur_un h ao B k m w sl bl BL a p ns next Q hd he hl hin hn
  | convert s d x => exact pur_conv h ao B k m w sl bl BL a p ns next Q hd he hl hin hn
  | makeSlice t l c => exact pur_make h ao B k m w sl bl BL a p ns next Q hd he hl hin hn
  | slice t x lo hi mx => exact pur_slc h ao B k m w sl bl BL a p ns next Q hd he hl hin hn
  | fieldAddr t x f => exact pur_faddr h ao B k m w sl bl BL a p ns next Q hd he hl hin hn
  | field t x f => exact pur_fld h ao B k m w sl bl BL a p ns next Q hd he hl hin hn
  | indexAddr t x y => exact pur_iaddr h ao B k m w sl bl BL a p ns next Q hd he hl hin hn
  | index t x y => exact pur_idx h ao B k m w sl bl BL a p ns next Q hd he hl hin hn
  | extract x i => exact pur_ext h ao B k m w sl bl BL a p ns next Q hd he hl hin hn
  | makeMap t r => exact pur_mkmap h ao B k m w sl bl BL a p ns next Q hd he hl hin hn
  | lookup t x y ok => exact pur_mget h ao B k m w sl bl BL a p ns next Q hd he hl hin hn
  | mapUpdate t x y z =>
    exfalso
    simp only [digOp, h, digSet] at hd
    repeat' split at hd
    all_goals first | (cases hd; done) | (cases hd; simp [evPur] at he)
  | insert t x y z =>
    exfalso
    simp only [digOp, h, digSet] at hd
    repeat' split at hd
    all_goals first | (cases hd; done) | (cases hd; simp [evPur] at he)
  | makeFunc fn first caps => exact pur_mkfn h ao B k m w sl bl BL a p ns next Q hd he hl hin hn
  | call c =>
    cases hcal : c.callee with
    | value f => exact pur_call hc h hcal ao B k m w sl bl BL a p ns next Q hd he hl hin hn
    | builtin b =>
      cases b with
      | len => exact pur_len h hcal ao B k m w sl bl BL a p ns next Q hd he hl hin hn
      | cap => exact pur_cap h hcal ao B k m w sl bl BL a p ns next Q hd he hl hin hn
      | min => exact pur_minmax h hcal (.inl rfl) ao B k m w sl bl BL a p ns next Q hd he hl hin hn
      | max => exact pur_minmax h hcal (.inr rfl) ao B k m w sl bl BL a p ns next Q hd he hl hin hn
      | append => exact pur_appz h hcal ao B k m w sl bl BL a p ns next Q hd he hl hin hn
      | copy =>
        exfalso
        simp only [digOp, h, hcal] at hd
        split at hd
        · simp only [digBuiltin] at hd
          repeat' split at hd
          all_goals first | contradiction | (cases hd; done) | (cases hd; simp [evPur] at he; done) | simp_all
        · cases hd
      | delete =>
        exfalso
        simp only [digOp, h, hcal] at hd
        split at hd
        · simp only [digBuiltin] at hd
          repeat' split at hd
          all_goals first | contradiction | (cases hd; done) | (cases hd; simp [evPur] at he; done) | simp_all
        · cases hd
      | clear =>
        exfalso
        simp only [digOp, h, hcal] at hd
        split at hd
        · simp only [digBuiltin] at hd
          repeat' split at hd
          all_goals first | contradiction | (cases hd; done) | (cases hd; simp [evPur] at he; done) | simp_all
        · cases hd
      | _ =>
        exfalso
        simp only [digOp, h, hcal] at hd
        split at hd
        · simp [digBuiltin] at hd
        · cases hd
    | invoke r n =>
      exfalso
      simp only [digOp, h, hcal] at hd
      split at hd <;> cases hd
  | store t x y =>
    exfalso
    simp only [digOp, h] at hd
    split at hd
    · cases hd; simp [evPur] at he
    · cases hd
  | _ => exfalso; simp [digOp, h] at hd

end
end Go.Proofs.Ytlnaibkpmklkiaa
