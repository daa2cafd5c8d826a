/- Arguments that come in, as pure values; the frame of a law. -/
import Derived.Test.YtlnaibkpmklkiaaEvY
import Derived.Deep.Slices
import Derived.WalkKit
import Derived.ProofKit
import Derived.OpenShut
import Derived.ShutString
import Derived.ChangeOld
namespace Go.Proofs.Ytlnaibkpmklkiaa
open Go Go.RowKit Go.ChangeShapes Go.WideShapes
set_option linter.unusedSectionVars false
variable [Bs]
set_option linter.unusedVariables false
set_option linter.unusedSimpArgs false

def layF (P : Program) : Nat → List Field → Option Nat
  | s, [] => some s
  | s, f :: r => if f.offset = s then layF P (s + P.cellsOf f.type) r else none

/-- plain data: no pointers, maps, functions -/
def pureT (P : Program) : Nat → TypeId → Bool
  | 0, _ => false
  | d + 1, t => match P.underlying t with
    | some .bool => true
    | some (.int _) => true
    | some .string => true
    | some (.slice e) => Nat.blt 0 (P.cellsOf e) && pureT P d e
    | some (.struct fs) => (match layF P 0 fs.toList with | some s => Nat.beq s (P.cellsOf t) | none => false) && fs.toList.all (fun f => pureT P d f.type)
    | some (.array k e) => Nat.beq (k * P.cellsOf e) (P.cellsOf t) && pureT P d e
    | _ => false

def HTF (h : TypeId → List PV → Prop) : List Field → List PV → Prop
  | [], ps => ps = []
  | f :: r, ps => ∃ p q, ps = p ++ q ∧ h f.type p ∧ HTF h r q
def HTA (h : List PV → Prop) : Nat → List PV → Prop
  | 0, ps => ps = []
  | k + 1, ps => ∃ p q, ps = p ++ q ∧ h p ∧ HTA h k q

/-- pure values of a type of plain data, cell by cell -/
def HT (P : Program) : Nat → TypeId → List PV → Prop
  | 0, _, _ => False
  | d + 1, t, ps => match P.underlying t with
    | some .bool => ∃ b, ps = [.bool b]
    | some (.int k) => ∃ i, ps = [.int k i] ∧ (Lit.int k i).wf = true
    | some .string => ∃ s, ps = [.str s] ∧ s.length ≤ maxLen
    | some (.slice e) => ∃ rows, ps = [.sl false (P.cellsOf e) rows] ∧ rows.length ≤ maxLen ∧ ∀ r ∈ rows, HT P d e r
    | some (.struct fs) => HTF (HT P d) fs.toList ps
    | some (.array k e) => HTA (HT P d e) k ps
    | _ => False

/-- a parameter of a type of plain data -/
def ArgT (P : Program) (d : Nat) (t : TypeId) (p : PV) : Prop :=
  match P.underlying t with
  | some (.struct _) => ∃ ps, p = .agg ps ∧ HT P d t ps
  | some (.array _ _) => ∃ ps, p = .agg ps ∧ HT P d t ps
  | _ => HT P d t [p]

/-- all memory, frozen -/
noncomputable def allM (w : World) : Mem := ⟨addCells (fun _ _ => none) w (fun _ => True), noBlk⟩
theorem allM_frz (w : World) (hB : (∀ b o v, Bs.cell b o = some v → (allM w).cell b o = some v) ∧ ∀ g ob, Bs.obj g = some ob → (∃ u, Bs.cell g 0 = some u) ∧ w.heap[g]? = some ob) : FrzOk (allM w) w := ⟨fun b o v hv => addCells_are (gs := fun _ => True) hv, hB⟩
theorem allM_cell {w : World} {b o : Nat} {v : Value} (h : w.cell? ⟨b, o, none⟩ = some v) (h1 : v.oneCell' = true) : (allM w).cell b o = some v :=
  addCells_new (c := fun _ _ => none) (gs := fun _ => True) (fun u hu => by cases hu) trivial h h1

section
variable {H : Type} {enc : TypeId × Value → H} {P : Program} {w : World} {base : Nat} {spare : Nat → Bool} {held : Bool}

/-- a list of values read as pure ones -/
structure RdL (w : World) (cs : List Value) (ps : List PV) : Prop where
  len : ps.length = cs.length
  get : ∀ (i : Nat) (p : PV), ps[i]? = some p → ∃ v, cs[i]? = some v ∧ v.oneCell' = true ∧ Rep (allM w) 0 p v

theorem RdL.append {cs1 cs2 : List Value} {ps1 ps2 : List PV} (h1 : RdL w cs1 ps1) (h2 : RdL w cs2 ps2) : RdL w (cs1 ++ cs2) (ps1 ++ ps2) := by
  refine ⟨by simp [h1.len, h2.len], fun i p hp => ?_⟩
  by_cases c : i < ps1.length
  · rw [List.getElem?_append_left c] at hp
    obtain ⟨v, g1, g2⟩ := h1.get i p hp
    exact ⟨v, by rw [List.getElem?_append_left (by rw [← h1.len]; exact c)]; exact g1, g2⟩
  · rw [List.getElem?_append_right (by omega)] at hp
    obtain ⟨v, g1, g2⟩ := h2.get _ p hp
    exact ⟨v, by rw [List.getElem?_append_right (by rw [← h1.len]; omega), ← h1.len]; exact g1, g2⟩

theorem RdL.one {v : Value} {p : PV} (h1 : v.oneCell' = true) (h : Rep (allM w) 0 p v) : RdL w [v] [p] :=
  ⟨rfl, fun i q hq => by
    cases i with
    | zero => simp at hq; subst hq; exact ⟨v, rfl, h1, h⟩
    | succ i => simp at hq⟩

theorem rows_ex {Q : Nat → List PV → Prop} : ∀ (n : Nat), (∀ i, i < n → ∃ r, Q i r) → ∃ L : List (List PV), L.length = n ∧ ∀ (i : Nat) (r : List PV), L[i]? = some r → Q i r
  | 0, _ => ⟨[], rfl, fun i o h => by simp at h⟩
  | n + 1, h => by
    obtain ⟨L, hl, hL⟩ := rows_ex n (fun i hi => h i (by omega))
    obtain ⟨o, ho⟩ := h n (by omega)
    refine ⟨L ++ [o], by simp [hl], fun i o' hi => ?_⟩
    by_cases hin : i < n
    · rw [List.getElem?_append_left (by omega)] at hi
      exact hL i o' hi
    · have hlt := (List.getElem?_eq_some_iff.1 hi).1
      simp [hl] at hlt
      obtain rfl : i = n := by omega
      rw [List.getElem?_append_right (by omega)] at hi
      simp [hl] at hi
      subst hi
      exact ho

theorem take_drop_split (cs : List Value) (s n : Nat) : cs.drop s = (cs.drop s).take n ++ cs.drop (s + n) := by
  rw [← List.drop_drop, List.take_append_drop]

theorem cell_spot {w : World} {b off : Nat} {spot : Option Nat} {v : Value} (h : w.cell? ⟨b, off, spot⟩ = some v) : spot = none := World.cell?_spot h

/-- WHAT COMES IN READS AS PURE VALUES -/
theorem trod_rep : ∀ (d n : Nat) (t : TypeId) (cs : List Value) (x : DataW H × List MemPlace), DataW.trod enc P w base spare held n t cs = some x → pureT P d t = true → ∃ ps, RdL w cs ps ∧ HT P d t ps
  | 0, n, t, cs, x, _, hp => by simp [pureT] at hp
  | d + 1, n, t, cs, x, h, hp => by
    simp only [pureT] at hp
    simp only [HT]
    cases hu : P.underlying t with
    | none => rw [hu] at hp; cases hp
    | some ty =>
      rw [hu] at hp
      cases ty <;> first | (simp at hp; done) | skip
      case bool =>
        obtain ⟨b, rfl, _⟩ := DataW.trod_bool hu h
        exact ⟨[.bool b], .one rfl .bool, b, rfl⟩
      case int k =>
        obtain ⟨i, rfl, _, hw⟩ := DataW.trod_int hu h
        exact ⟨[.int k i], .one rfl .int, i, rfl, hw⟩
      case string =>
        obtain ⟨s, rfl, _, hs⟩ := DataW.trod_string hu h
        exact ⟨[.str s.data.toList], .one rfl .str, _, rfl, by simpa using hs⟩
      case slice e =>
        simp only [Bool.and_eq_true] at hp
        obtain ⟨hce, hp⟩ := hp
        have hce' : 0 < P.cellsOf e := by simpa [Nat.blt_eq] using hce
        rcases DataW.trod_slice hu h with ⟨rfl, _⟩ | ⟨a, len, cap, elems, rest, n', _, rfl, _, _, hl, hm, hlen, hel, _⟩
        · exact ⟨[.sl false (P.cellsOf e) []], .one rfl (.slz (by simp [maxLen]) (fun h => by cases h)), [], rfl, by simp [maxLen], by simp⟩
        · have hrow : ∀ i, i < len → ∃ r : List PV, ∃ cs' : List Value, cs'.length = P.cellsOf e ∧ (∀ j, j < P.cellsOf e → w.cell? ((a.add (i * P.cellsOf e)).add j) = cs'[j]?) ∧ RdL w cs' r ∧ HT P d e r := by
            intro i hi
            have h1 := hel i hi
            rw [List.getElem?_eq_getElem (by omega)] at h1
            cases hc : w.cells? base (a.add (i * P.cellsOf e)) (P.cellsOf e) with
            | none => rw [hc] at h1; cases h1
            | some cs' =>
              rw [hc] at h1
              simp only [Option.bind_some] at h1
              obtain ⟨r, hr1, hr2⟩ := trod_rep d n' e cs' _ h1 hp
              obtain ⟨_, hcl, hat⟩ := World.cells?_some hc
              exact ⟨r, cs', hcl, hat, hr1, hr2⟩
          obtain ⟨rows, hrl, hrows⟩ := rows_ex len hrow
          have hht : ∀ r ∈ rows, HT P d e r := fun r hr => by
            obtain ⟨i, hi⟩ := List.getElem?_of_mem hr
            obtain ⟨_, _, _, _, h4⟩ := hrows i r hi
            exact h4
          have hrlen : ∀ r ∈ rows, r.length = P.cellsOf e := fun r hr => by
            obtain ⟨i, hi⟩ := List.getElem?_of_mem hr
            obtain ⟨cs', h1, _, h3, _⟩ := hrows i r hi
            rw [h3.len, h1]
          refine ⟨[.sl false (P.cellsOf e) rows], .one rfl ?_, rows, rfl, by omega, hht⟩
          by_cases hz : len = 0
          · subst hz
            have : rows = [] := List.eq_nil_of_length_eq_zero hrl
            subst this
            exact .slz hm (fun h => by cases h)
          · by_cases hc0 : P.cellsOf e = 0
            · omega
            · obtain ⟨b, off, spot⟩ := a
              have hcell : ∀ (i : Nat) (row : List PV) (j : Nat) (p : PV), rows[i]? = some row → row[j]? = some p → ∃ u, w.cell? ((⟨b, off, spot⟩ : Addr).add (i * P.cellsOf e + j)) = some u ∧ u.oneCell' = true ∧ Rep (allM w) 0 p u := by
                intro i row j p hi hj
                obtain ⟨cs', h1, h2, h3, _⟩ := hrows i row hi
                obtain ⟨u, g1, g2, g3⟩ := h3.get j p hj
                have hjl : j < P.cellsOf e := by rw [← h1]; exact (List.getElem?_eq_some_iff.1 g1).1
                refine ⟨u, ?_, g2, g3⟩
                rw [← Go.Deep.add_add, h2 j hjl]
                exact g1
              have hspot : spot = none := by
                have h0 : ∃ row, rows[0]? = some row := ⟨_, List.getElem?_eq_getElem (by omega)⟩
                obtain ⟨row, hrow0⟩ := h0
                have hl0 := hrlen row (List.mem_of_getElem? hrow0)
                have hj0 : ∃ p, row[0]? = some p := ⟨_, List.getElem?_eq_getElem (by omega)⟩
                obtain ⟨p, hp0⟩ := hj0
                obtain ⟨u, g1, _⟩ := hcell 0 row 0 p hrow0 hp0
                simp [Addr.add] at g1
                exact cell_spot g1
              subst hspot
              have := Rep.sl (m := allM w) (k := 0) (ex := false) (e := P.cellsOf e) (rows := rows) (b := b) (off := off) (cap := cap) (vals := fun i j => (w.cell? ⟨b, off + (i * P.cellsOf e + j), none⟩).getD undef)
                (by omega) hm (fun h => by cases h) hrlen
                (fun i j row p hi hj => by
                  obtain ⟨u, g1, g2, _⟩ := hcell i row j p hi hj
                  rw [Addr.add_lit] at g1
                  rw [g1, Nat.add_assoc]
                  exact allM_cell g1 g2)
                (fun i j row p hi hj => by
                  obtain ⟨u, g1, _, g3⟩ := hcell i row j p hi hj
                  rw [Addr.add_lit] at g1
                  rw [g1]
                  exact g3)
              rw [hrl] at this
              exact this
      case struct fs =>
        simp only [Bool.and_eq_true] at hp
        obtain ⟨hlay, hall⟩ := hp
        obtain ⟨xs, n', _, _, hcl, hxl, hf⟩ := DataW.trod_struct hu h
        have key : ∀ (l : List Field) (s : Nat), (∀ f ∈ l, pureT P d f.type = true) → (∀ f ∈ l, ∃ y, DataW.trod enc P w base spare held n' f.type ((cs.drop f.offset).take (P.cellsOf f.type)) = some y) → layF P s l = some cs.length →
            ∃ ps, RdL w (cs.drop s) ps ∧ HTF (HT P d) l ps := by
          intro l
          induction l with
          | nil =>
            intro s _ _ hlay
            simp [layF] at hlay
            refine ⟨[], ⟨by simp [hlay], fun i p hp => by simp at hp⟩, rfl⟩
          | cons f l ih =>
            intro s hpf hft hlay
            simp only [layF] at hlay
            split at hlay
            · rename_i hoff
              obtain ⟨y, hy⟩ := hft f (by simp)
              obtain ⟨p1, hp1, ht1⟩ := trod_rep d n' f.type _ y hy (hpf f (by simp))
              obtain ⟨p2, hp2, ht2⟩ := ih (s + P.cellsOf f.type) (fun g hg => hpf g (by simp [hg])) (fun g hg => hft g (by simp [hg])) hlay
              refine ⟨p1 ++ p2, ?_, p1, p2, rfl, ht1, ht2⟩
              rw [take_drop_split cs s (P.cellsOf f.type)]
              rw [hoff] at hp1
              exact hp1.append hp2
            · cases hlay
        have hlay' : layF P 0 fs.toList = some cs.length := by
          cases hq : layF P 0 fs.toList with
          | none => rw [hq] at hlay; cases hlay
          | some s =>
            rw [hq] at hlay
            simp only at hlay
            have : s = P.cellsOf t := by simpa using hlay
            rw [hcl, this]
        have := key fs.toList 0 (fun f hf' => List.all_eq_true.1 hall f hf') (fun f hf' => by
          obtain ⟨i, hi⟩ := List.getElem?_of_mem hf'
          have hi' : fs[i]? = some f := by simpa using hi
          have h1 := hf i f hi'
          have hlt : i < xs.length := by rw [hxl]; exact (Array.getElem?_eq_some_iff.1 hi').1
          exact ⟨xs[i], by rw [h1, List.getElem?_eq_getElem hlt]⟩) hlay'
        simpa using this
      case array k e =>
        simp only [Bool.and_eq_true] at hp
        obtain ⟨hk, hpe⟩ := hp
        obtain ⟨xs, n', _, _, hcl, hxl, hf⟩ := DataW.trod_array hu h
        have hk' : k * P.cellsOf e = cs.length := by rw [hcl]; exact Nat.eq_of_beq_eq_true hk
        have key : ∀ (r i : Nat), i + r = k → ∃ ps, RdL w (cs.drop (i * P.cellsOf e)) ps ∧ HTA (HT P d e) r ps := by
          intro r
          induction r with
          | zero =>
            intro i hi
            have : i = k := by omega
            subst this
            exact ⟨[], ⟨by simp [hk'], fun i p hp => by simp at hp⟩, rfl⟩
          | succ r ih =>
            intro i hi
            have h1 := hf i (by omega)
            rw [List.getElem?_eq_getElem (by omega)] at h1
            obtain ⟨p1, hp1, ht1⟩ := trod_rep d n' e _ _ h1 hpe
            obtain ⟨p2, hp2, ht2⟩ := ih (i + 1) (by omega)
            refine ⟨p1 ++ p2, ?_, p1, p2, rfl, ht1, ht2⟩
            rw [take_drop_split cs (i * P.cellsOf e) (P.cellsOf e)]
            rw [Nat.add_mul, Nat.one_mul] at hp2
            exact hp1.append hp2
        have := key k 0 (by omega)
        simpa using this

def ArgL (P : Program) (d : Nat) : List TypeId → List PV → Prop
  | [], [] => True
  | t :: ts, p :: ps => ArgT P d t p ∧ ArgL P d ts ps
  | _, _ => False

/-- one argument -/
theorem arg_rep {d : Nat} {t : TypeId} {v : Value} {x : DataW H} {pl : List MemPlace} {r : Reach} {bb : Nat} (h : DataW.Trod enc P w base spare held t v x pl) (hv : Value.okWide P w r bb t v) (hp : pureT P d t = true) : ∃ p, ArgT P d t p ∧ Rep (allM w) 0 p v := by
  obtain ⟨n, hn⟩ := h
  obtain ⟨ps, h1, h2⟩ := trod_rep d n t _ _ hn hp
  have single : v.cells = #[v] → HT P d t ps → ∃ p, ps = [p] ∧ Rep (allM w) 0 p v := by
    intro hc _
    rw [hc] at h1
    have hl := h1.len
    simp at hl
    obtain ⟨p, rfl⟩ := List.length_eq_one_iff.1 hl
    obtain ⟨u, g1, _, g3⟩ := h1.get 0 p rfl
    simp at g1
    subst g1
    exact ⟨p, rfl, g3⟩
  have agg : ∀ cs, v = .agg cs → Rep (allM w) 0 (.agg ps) v := by
    rintro cs rfl
    refine .agg (by simpa [Value.cells] using h1.len) (fun i p hp => ?_)
    obtain ⟨u, g1, _, g3⟩ := h1.get i p hp
    have : cs[i]? = some u := by simpa [Value.cells] using g1
    rw [Array.getD_eq_getD_getElem?, this]
    exact g3
  unfold ArgT
  cases hu : P.underlying t with
  | none => cases d <;> simp [pureT, hu] at hp
  | some ty =>
    have one : v.cells = #[v] → HT P d t ps → ∃ p, HT P d t [p] ∧ Rep (allM w) 0 p v := fun hc hh => by
      obtain ⟨p, hp1, hp2⟩ := single hc hh
      subst hp1
      exact ⟨p, hh, hp2⟩
    cases ty <;> first
      | (cases d <;> simp [pureT, hu] at hp; done)
      | skip
    case bool => obtain ⟨b, rfl⟩ := okWide_bool hu hv; exact one rfl h2
    case int k => obtain ⟨b, rfl⟩ := okWide_int hu hv; exact one rfl h2
    case string => obtain ⟨b, rfl⟩ := okWide_string hu hv; exact one rfl h2
    case slice e => obtain ⟨a, l, c, rfl⟩ := okWide_slice hu hv; exact one rfl h2
    case struct fs =>
      unfold Value.okWide at hv
      rw [hu] at hv
      obtain ⟨cs, hcs, _⟩ := hv
      exact ⟨.agg ps, ⟨ps, rfl, h2⟩, agg cs hcs⟩
    case array k e =>
      unfold Value.okWide at hv
      rw [hu] at hv
      obtain ⟨cs, hcs, _⟩ := hv
      exact ⟨.agg ps, ⟨ps, rfl, h2⟩, agg cs hcs⟩

/-- all arguments -/
theorem args_rep {d : Nat} {r : Reach} {bb : Nat} : ∀ (ts : List TypeId) (vs : List Value) (ds : List (DataW H)) (pl : List MemPlace), DataW.TrodAll enc P w base spare held ts vs ds pl →
    (∀ (j : Nat) (t : TypeId) (v : Value), ts[j]? = some t → vs[j]? = some v → Value.okWide P w r bb t v) → ts.all (pureT P d) = true →
    ∃ ps : List PV, ps.length = vs.length ∧ (∀ (i : Nat) (p : PV), ps[i]? = some p → Rep (allM w) 0 p (vs.getD i undef)) ∧ ArgL P d ts ps
  | [], vs, ds, pl, h, _, _ => by
    obtain ⟨rfl, _, _⟩ := trodAll_nil h
    exact ⟨[], rfl, fun i p hp => by simp at hp, trivial⟩
  | t :: ts, vs, ds, pl, h, hv, hp => by
    obtain ⟨v, vs', x, ds', p, q, rfl, rfl, rfl, h1, h2⟩ := trodAll_cons h
    simp only [List.all_cons, Bool.and_eq_true] at hp
    obtain ⟨p0, a1, a2⟩ := arg_rep h1 (hv 0 t v rfl rfl) hp.1
    obtain ⟨ps, b1, b2, b3⟩ := args_rep ts vs' ds' q h2 (fun j t v ht hv' => hv (j + 1) t v (by simpa using ht) (by simpa using hv')) hp.2
    refine ⟨p0 :: ps, by simp [b1], fun i p hp => ?_, a1, b3⟩
    cases i with
    | zero => simp at hp; subst hp; simpa using a2
    | succ i => simpa using b2 i p (by simpa using hp)

/-- what is read below the call's own memory reads the same -/
theorem below_all {W' : World} (hl : laidOutB P = true) (hb : Below w.heap.size w W') : ∀ (ts : List TypeId) (vs : List Value) (ds : List (DataW H)) (pl : List MemPlace), DataW.TrodAll enc P w 0 (fun _ => true) true ts vs ds pl →
    ts.all (fun t => P.readableRec t && decide (t < P.types.size)) = true → DataW.TrodAll enc P W' 0 (fun b => decide (b < w.heap.size)) true ts vs ds pl
  | [], vs, ds, pl, h, _ => by
    obtain ⟨rfl, rfl, rfl⟩ := trodAll_nil h
    exact trodAll_mk0
  | t :: ts, vs, ds, pl, h, hp => by
    obtain ⟨v, vs', x, ds', p, q, rfl, rfl, rfl, h1, h2⟩ := trodAll_cons h
    simp only [List.all_cons, Bool.and_eq_true, decide_eq_true_eq] at hp
    have hlt : ∀ x ∈ p, x.block < w.heap.size := by obtain ⟨m, hm⟩ := h1; exact DataW.trod_lt m _ _ _ hm
    exact trodAll_cons_mk (Below.trod hl hp.1.1 hp.1.2 h1 hb hlt) (below_all hl hb ts vs' ds' q h2 (by simpa using hp.2))

end

/-- A LAW'S CALL -/
theorem law_calls {P : Program} {D : Nat → Option AFn} (hD : DOk P D) {n f : Nat} {ps : List PV} {vs : Array Value} {w : World} (hB : (∀ b o v, Bs.cell b o = some v → (allM w).cell b o = some v) ∧ ∀ g ob, Bs.obj g = some ob → (∃ u, Bs.cell g 0 = some u) ∧ w.heap[g]? = some ob) (hl : ps.length = vs.toList.length) (hr : ∀ (i : Nat) (p : PV), ps[i]? = some p → Rep (allM w) 0 p (vs.toList.getD i undef))
    (h : (evF D n).p f ps = some (.bool true)) (hbd : ∃ fn, P.funcs[f]? = some fn ∧ fn.body.isSome = true) : Calls P f vs w fun e w' => e = .returned (.bool true) ∧ Below w.heap.size w w' := by
  have hc := (evF_sound hD n).1 f ps _ h
  have hcx := hc (allM w) w vs (by simpa using hl) (fun i p hp => by rw [getD_toList]; exact hr i p hp) (allM_frz w hB)
  have hcy : Calls P f vs w fun e w' => ∃ v, e = .returned v ∧ RetOk (allM w) w w' (.bool true) v := by
    rcases hcx with ⟨_, hc⟩ | ⟨⟨fn, h1, h2⟩, _⟩
    · exact hc
    · obtain ⟨fn', h3, h4⟩ := hbd
      rw [h1] at h3
      cases h3
      rw [h2] at h4
      cases h4
  refine hcy.mono ?_
  rintro e w' ⟨v, rfl, hb, c', infos, _, _, _, _, _, _, hrep⟩
  have := bool_inv (hrep 0 (fun j => infos[j]?) (fun j i hi => by simpa using hi))
  subst this
  exact ⟨rfl, hb⟩

#print axioms law_calls
end Go.Proofs.Ytlnaibkpmklkiaa
