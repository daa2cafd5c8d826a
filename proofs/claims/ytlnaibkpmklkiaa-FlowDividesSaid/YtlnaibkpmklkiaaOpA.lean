/- flow.Open: the numbers that are open, by the map that its first loop fills. -/
import Derived.Test.YtlnaibkpmklkiaaEvLp
import Derived.Test.YtlnaibkpmklkiaaProg
import Derived.Test.YtlnaibkpmklkiaaEvWp
namespace Go.Proofs.Ytlnaibkpmklkiaa
open Go Go.RowKit
set_option linter.unusedVariables false
set_option linter.unusedSimpArgs false
set_option linter.unusedSectionVars false

/-- an event as it lies in a list -/
structure Tm where
  th : Int
  se : Int
  at_ : Int
  kd : Int
  nm : List UInt8
  n : Int
  c6 : Int
  fs : PV
  lo : Int
  hi : Int
  h1 : fs.leaf = true
  h2 : fs.lt 0 = true
def tRow (t : Tm) : List PV := [.int .i64 t.th, .int .i64 t.se, .int .i64 t.at_, .int .i64 t.kd, .str t.nm, .int .i64 t.n, .int .i64 t.c6, t.fs, .int .i64 t.lo, .int .i64 t.hi]
def tRows (l : List Tm) : List (List PV) := l.map tRow
theorem tRows_len (l : List Tm) : (tRows l).length = l.length := by simp [tRows]
theorem tRows_get {l : List Tm} {i : Nat} {t : Tm} (h : l[i]? = some t) : (tRows l)[i]? = some (tRow t) := by simp [tRows, h]
theorem tRows_take (l : List Tm) : (tRows l).take l.length = tRows l := by rw [List.take_of_length_le (by simp [tRows])]

/-- the numbers that are open -/
def opStep (ks : List Int) (t : Tm) : List Int := if t.kd = 6 then (if t.n ∈ ks then ks else ks ++ [t.n]) else if t.kd = 7 then ks.erase t.n else ks
def opens (l : List Tm) : List Int := l.foldl opStep []

def mRows (ks : List Int) : List (List PV) := ks.map fun k => [.int .i64 k, .bool true]
theorem mRows_nil : mRows [] = [] := rfl
theorem mfind_gen (n : Int) : ∀ (ks : List Int) (i : Nat), mfind [.i] false [.int .i64 n] (mRows ks) i = if n ∈ ks then some (some (i + ks.idxOf n, .bool true)) else some none
  | [], i => by simp [mRows, mfind]
  | k :: ks, i => by
    have ih := mfind_gen n ks (i + 1)
    simp only [mRows, List.map_cons] at ih ⊢
    simp only [mfind, keyC, Bool.false_eq_true, if_false, eqL, eq1, if_true, Bool.and_true]
    by_cases h : n = k
    · subst h; simp
    · have h' : (n == k) = false := by simpa using h
      have h2 : (k == n) = false := by simpa using fun e => h e.symm
      simp only [h', ih, List.mem_cons, h, false_or, List.idxOf_cons, h2, cond_false]
      split
      · congr 3; omega
      · rfl
theorem mfind_in {n : Int} {ks : List Int} (h : n ∈ ks) : mfind [.i] false [.int .i64 n] (mRows ks) 0 = some (some (ks.idxOf n, .bool true)) := by rw [mfind_gen, if_pos h]; simp
theorem mfind_out {n : Int} {ks : List Int} (h : n ∉ ks) : mfind [.i] false [.int .i64 n] (mRows ks) 0 = some none := by rw [mfind_gen, if_neg h]
theorem mRows_set {n : Int} {ks : List Int} (h : n ∈ ks) : (mRows ks).set (ks.idxOf n) [.int .i64 n, .bool true] = mRows ks := by
  have hl := List.idxOf_lt_length_of_mem h
  apply List.ext_getElem?
  intro j
  rw [List.getElem?_set]
  split
  · rename_i hj
    subst hj
    have hg : ks[ks.idxOf n]? = some n := by rw [List.getElem?_eq_getElem hl]; simp
    rw [if_pos (by simp [mRows]; exact hl)]
    simp only [mRows, List.getElem?_map, hg, Option.map_some]
  · rfl
theorem mRows_add (n : Int) (ks : List Int) : mRows ks ++ [[.int .i64 n, .bool true]] = mRows (ks ++ [n]) := by simp [mRows]
theorem mRows_del {n : Int} {ks : List Int} (h : n ∈ ks) : (mRows ks).eraseIdx (ks.idxOf n) = mRows (ks.erase n) := by
  rw [List.erase_eq_eraseIdx_of_idxOf rfl]
  apply List.ext_getElem?
  intro j
  simp only [mRows, List.getElem?_eraseIdx, List.getElem?_map]
  split <;> rfl

/-- the pieces of its code -/
def cL : Code → Code | .seq a _ => a | c => c
def cR : Code → Code | .seq _ b => b | c => c
def cB : Code → Code | .block _ a => a | c => c
def cLp : Code → Code | .loop a => a | c => c
def cOps : Code → List Oper | .region _ ops _ => ops.toList | _ => []
noncomputable def b14 : Code := (Try.f14.body).getD .skip
noncomputable def p0 : Code := cL b14
noncomputable def p1 : Code := cL (cR b14)
noncomputable def p2 : Code := cL (cR (cR b14))
noncomputable def p3 : Code := cR (cR (cR b14))
noncomputable def p3a : Code := cL p3
noncomputable def p3r : Code := cL (cL (cR p3))
noncomputable def p3b : Code := cR (cL (cR p3))
noncomputable def p3l : Code := cLp (cB p3b)
noncomputable def p3n : Code := cL p3l
noncomputable def p3c : Code := cL (cR p3l)
noncomputable def p3d : Code := cB (cR (cR p3l))
noncomputable def p3e : Code := cL p3d
noncomputable def p3f : Code := cR p3d
noncomputable def p4 : Code := cR (cR p3)
theorem b14_eq : Try.f14.body = some (.seq p0 (.seq p1 (.seq p2 (.seq p3a (.seq (.seq p3r p3b) p4))))) := by kernel_rfl
theorem p3b_eq : p3b = .block 3 (.loop (.seq p3n (.seq p3c (.block 4 (.seq p3e p3f))))) := by kernel_rfl

def xo : Oper := default
noncomputable def r0 : Oper := (cOps p3r)[0]?.getD xo
noncomputable def r1 : Oper := (cOps p3r)[1]?.getD xo
noncomputable def n0 : Oper := (cOps p3n)[0]?.getD xo
noncomputable def n1 : Oper := (cOps p3n)[1]?.getD xo
noncomputable def e0 : Oper := (cOps p3e)[0]?.getD xo
noncomputable def e1 : Oper := (cOps p3e)[1]?.getD xo
noncomputable def e2 : Oper := (cOps p3e)[2]?.getD xo
theorem p3r_eq : p3r = .region 12 #[r0, r1] false := by kernel_rfl
theorem p3n_eq : p3n = .region 13 #[n0, n1] false := by kernel_rfl
theorem p3e_eq : p3e = .region 14 #[e0, e1, e2] false := by kernel_rfl

def own14 : List Nat := [1000026]
def a2b : AC := (.seq
        (.reg [⟨some 12, none, .bin .lss (.t 11) (.t 10)⟩])
        (.seq
         (.cond (.t 12)
          .skip
          (.exit 0))
         (.seq
          (.block 1
           (.seq
            (.reg [⟨some 13, none, .iaddr (.slice 10) (.t 9) (.t 11)⟩,
             ⟨some 14, none, .load 10 true (.t 13)⟩,
             ⟨some 5, none, .alloc [(.int .i64 0), (.int .i64 0), (.int .i64 0), (.int .i64 0), (.str []), (.int .i64 0), (.int .i64 0), .nilS, (.int .i64 0), (.int .i64 0)]⟩,
             ⟨none, none, .store 10 (.t 5) (.t 14)⟩])
            (.seq
             (.reg [⟨some 15, none, .faddr 2 (.t 5)⟩,
              ⟨some 16, none, .faddr 1 (.t 15)⟩,
              ⟨some 17, none, .load 1 false (.t 16)⟩])
             (.block 2
              (.seq
               (.reg [⟨some 19, none, .bin .eql (.t 17) (.c (.int .i64 6))⟩,
                ⟨some 18, none, .mov (.t 19)⟩])
               (.cond (.t 18)
                (.reg [⟨some 20, none, .mov (.t 3)⟩,
                 ⟨some 21, none, .faddr 2 (.t 5)⟩,
                 ⟨some 22, none, .faddr 3 (.t 21)⟩,
                 ⟨some 23, none, .load 1 false (.t 22)⟩,
                 ⟨none, none, .mset [.i] false (.t 20) (.t 23) (.c (.bool true))⟩])
                (.seq
                 (.reg [⟨some 25, none, .bin .eql (.t 17) (.c (.int .i64 7))⟩,
                  ⟨some 24, none, .mov (.t 25)⟩])
                 (.cond (.t 24)
                  (.reg [⟨some 26, none, .mov (.t 3)⟩,
                   ⟨some 27, none, .faddr 2 (.t 5)⟩,
                   ⟨some 28, none, .faddr 3 (.t 27)⟩,
                   ⟨some 29, none, .load 1 false (.t 28)⟩,
                   ⟨none, none, .mdel [.i] false (.t 26) (.t 29)⟩])
                  .skip))))))))
          (.reg [⟨some 30, none, .bin .add (.t 11) (.c (.int .i64 1))⟩,
           ⟨some 11, none, .mov (.t 30)⟩]))))
def a2 : AC := (.seq
     (.reg [⟨some 9, none, .mov (.t 0)⟩,
      ⟨some 10, none, .len (.t 9)⟩,
      ⟨some 11, none, .mov (.c (.int .i64 0))⟩])
     (.block 0
      (.loop [3, 9, 10, 11]
       a2b)))
def a3f : AC := (.reg [⟨some 37, none, .mov (.t 6)⟩,
              ⟨some 38, none, .mov (.t 7)⟩,
              ⟨some 39, none, .bslice false 1 [(.int .i64 0)] 1 [(0, (.t 38))]⟩,
              ⟨some 40, none, .append 1 8 (.t 37) (.t 39)⟩,
              ⟨some 6, none, .mov (.t 40)⟩])
def a4 : AC := (.seq
       (.reg [⟨some 41, none, .mov (.t 6)⟩,
        ⟨some 42, none, .callS 26 [(.t 41)]⟩])
       (.seq
        (.reg [⟨some 43, none, .mov (.t 6)⟩,
         ⟨some 2, none, .mov (.t 43)⟩])
        .ret))
theorem q0 : digCode Try.prog own14 p0 [] = some (.reg [⟨some 2, none, .nilv 1⟩], []) := by kernel_rfl
theorem q1 : digCode Try.prog own14 p1 [] = some (.reg [⟨some 8, none, .mkmap none⟩, ⟨some 3, none, .mov (.t 8)⟩], []) := by kernel_rfl
theorem q2 : digCode Try.prog own14 p2 [[3, 9, 10, 11]] = some (a2, []) := by kernel_rfl
theorem q3a : digCode Try.prog own14 p3a [] = some (.reg [⟨some 6, none, .nilv 1⟩], []) := by kernel_rfl
theorem q3c : digCode Try.prog own14 p3c [] = some (.cond (.t 34) .skip (.exit 3), []) := by kernel_rfl
theorem q3f : digCode Try.prog own14 p3f [] = some (a3f, []) := by kernel_rfl
theorem q4 : digCode Try.prog own14 p4 [] = some (a4, []) := by kernel_rfl
theorem qr0 : digOper Try.prog own14 #[r0, r1] r0 = some ⟨some 31, none, .mov (.t 3)⟩ := by kernel_rfl
theorem qn1 : digOper Try.prog own14 #[n0, n1] n1 = some ⟨some 34, none, .ext (.t 33) 0⟩ := by kernel_rfl
theorem qe12 : digOps Try.prog own14 #[e0, e1, e2] [e1, e2] = some [⟨some 36, none, .ext (.t 35) 0⟩, ⟨some 7, none, .mov (.t 36)⟩] := by kernel_rfl
theorem or1 : r1.op = .range 57 (.tmp 31) := by kernel_rfl
theorem on0 : n0.op = .next (.tmp 32) false := by kernel_rfl
theorem oe0 : e0.op = .entry (.tmp 32) := by kernel_rfl
theorem u57 : ∃ K E, Try.prog.underlying 57 = some (.map K E) := ⟨3, 4, by kernel_rfl⟩

end Go.Proofs.Ytlnaibkpmklkiaa
