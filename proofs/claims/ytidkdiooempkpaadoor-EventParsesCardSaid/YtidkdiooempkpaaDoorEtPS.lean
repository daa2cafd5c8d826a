/- several parts in one. -/
-- BIG
import Derived.Test.YtidkdiooempkpaaDoorEtO
import Derived.Test.YtidkdiooempkpaaDoorEtNA
/- event: strings.Split at a separator of one byte. -/
-- LATT
namespace Go.Proofs.YtidkdiooempkpaaDoor
open Go Go.RowKit Go.Lib
attribute [local simp] evCode evOps evOne evOp evPur evEff evPur.chunks fillP AOp.isEff AO.ev putP PV.cells PV.leaf getB getM mapE iterE keyC mapRows mfind eq1 eqL scal binP unP minP maxP foldP PV.lt PV.lt.ltL endP expoAll expoG expo expo.expoL frIds frIds.frIdsL nodupN kill cls clsFuel resO RV.get loadP evC_p evC_s endS endT rowsOf callP thinL unfr unfr.unfrL PV.noMem PV.noMem.noMemL optI mapO norm trimT trimB forget hasN blksLt List.set softChk softGo softRd effTg tgOf chgN sameB PV.same PV.same.sameL PV.same.sameLL rdP
set_option linter.unusedVariables false
set_option linter.unusedSimpArgs false
set_option maxHeartbeats 4000000
set_option maxRecDepth 100000

theorem u8_back (c : UInt8) : ((c.toNat : Int)).toNat.toUInt8 = c := by
  rw [Int.toNat_natCast]
  simp
theorem f94 (l : List UInt8) (c : UInt8) : evE Dg 94 [.str l, .int .u8 (c.toNat : Int)] = some (.int .i64 (idxI c l)) :=
  evE_ext D94 rfl (by simp only [xIdx, u8_back])
theorem f70 (l : List UInt8) (c : UInt8) : evE Dg 70 [.str l, .int .u8 (c.toNat : Int)] = some (.int .i64 (cntB c l)) :=
  evE_ext D70 rfl (by simp only [xCnt, u8_back])
theorem f60 (l : List UInt8) (c : UInt8) : evE Dg 60 [.str l, .str [c]] = some (.int .i64 (cntB c l)) := by
  have h := f70 l c
  refine evE_intro 1 D60 rfl ?_
  unfold c60
  simp (maxSteps := 100000000) [h]
theorem f82 (l : List UInt8) (c : UInt8) : evE Dg 82 [.str l, .int .u8 (c.toNat : Int)] = some (.int .i64 (idxI c l)) := by
  have h := f94 l c
  refine evE_intro 1 D82 rfl ?_
  unfold c82
  simp (maxSteps := 100000000) [h]
theorem f71 (l : List UInt8) (c : UInt8) : evE Dg 71 [.str l, .str [c]] = some (.int .i64 (idxI c l)) := by
  have h := f82 l c
  refine evE_intro 1 D71 rfl ?_
  unfold c71
  by_cases hl : [c] = l
  · subst hl
    have : idxI c [c] = 0 := by simp [idxI, idxB]
    simp (maxSteps := 100000000) [h, this]
  · simp (maxSteps := 100000000) [h, hl]
theorem f61 (l : List UInt8) (c : UInt8) : evE Dg 61 [.str l, .str [c]] = some (.int .i64 (idxI c l)) := by
  have h := f71 l c
  refine evE_intro 1 D61 rfl ?_
  unfold c61
  simp (maxSteps := 100000000) [h]
theorem idxB_app (c : UInt8) (r : List UInt8) : ∀ (w : List UInt8) (i : Nat), (∀ x ∈ w, x ≠ c) → idxB c (w ++ c :: r) i = some (i + w.length)
  | [], i, _ => by simp [idxB]
  | x :: w, i, h => by
    have hx := h x (List.mem_cons_self ..)
    have ih := idxB_app c r w (i + 1) (fun y hy => h y (List.mem_cons_of_mem _ hy))
    rw [List.cons_append]
    unfold idxB
    have : (x == c) = false := by simpa using hx
    rw [this]
    simp only [Bool.false_eq_true, if_false]
    rw [ih]
    simp only [List.length_cons]
    congr 1
    omega
theorem idxI_app {c : UInt8} {w r : List UInt8} (h : ∀ x ∈ w, x ≠ c) : idxI c (w ++ c :: r) = (w.length : Int) := by
  unfold idxI
  rw [idxB_app c r w 0 h]
  simp
theorem cutB_cnt (c : UInt8) : ∀ l, (cutB c l).length = cntB c l + 1
  | [] => rfl
  | x :: r => by
    have ih := cutB_cnt c r
    unfold cutB cntB
    by_cases h : x = c
    · subst h; simp [ih]
    · have h' : (x == c) = false := by simpa using h
      rw [if_neg h, h']
      simp only [Bool.false_eq_true, if_false]
      cases hc : cutB c r with
      | nil => exact absurd hc (cutB_ne c r)
      | cons w ws => rw [hc] at ih; simpa using ih
theorem cutB_join (c : UInt8) : ∀ l, joinS [c] (cutB c l) = l
  | [] => rfl
  | x :: r => by
    have ih := cutB_join c r
    unfold cutB
    by_cases h : x = c
    · subst h
      rw [if_pos rfl]
      cases hc : cutB x r with
      | nil => exact absurd hc (cutB_ne x r)
      | cons w ws =>
        rw [hc] at ih
        have e1 : joinS [x] ([] :: w :: ws) = [] ++ ([x] ++ joinS [x] (w :: ws)) := rfl
        rw [e1, ih]
        rfl
    · rw [if_neg h]
      cases hc : cutB c r with
      | nil => exact absurd hc (cutB_ne c r)
      | cons w ws =>
        rw [hc] at ih
        simp only
        cases ws with
        | nil => simp only [joinS] at ih ⊢; rw [ih]
        | cons u us =>
          have e1 : joinS [c] ((x :: w) :: u :: us) = (x :: w) ++ ([c] ++ joinS [c] (u :: us)) := rfl
          have e2 : joinS [c] (w :: u :: us) = w ++ ([c] ++ joinS [c] (u :: us)) := rfl
          rw [e1, List.cons_append, ← e2, ih]
theorem cutB_no (c : UInt8) : ∀ l, ∀ s ∈ cutB c l, ∀ x ∈ s, x ≠ c
  | [], s, hs, x, hx => by simp [cutB] at hs; subst hs; cases hx
  | y :: r, s, hs, x, hx => by
    have ih := cutB_no c r
    unfold cutB at hs
    by_cases h : y = c
    · rw [if_pos h] at hs
      rcases List.mem_cons.1 hs with rfl | hs
      · cases hx
      · exact ih s hs x hx
    · rw [if_neg h] at hs
      cases hc : cutB c r with
      | nil => exact absurd hc (cutB_ne c r)
      | cons w ws =>
        rw [hc] at hs ih
        rcases List.mem_cons.1 hs with rfl | hs
        · rcases List.mem_cons.1 hx with rfl | hx
          · exact h
          · exact ih w (List.mem_cons_self ..) x hx
        · exact ih s (List.mem_cons_of_mem _ hs) x hx
theorem cntB_le (c : UInt8) : ∀ l, cntB c l ≤ l.length
  | [] => Nat.le_refl _
  | x :: r => by
    have ih := cntB_le c r
    unfold cntB
    split <;> simp only [List.length_cons] <;> omega
theorem mem_join_le (sep : List UInt8) : ∀ (l : List (List UInt8)), ∀ s ∈ l, s.length ≤ (joinS sep l).length
  | [], s, h => by cases h
  | t :: r, s, h => by
    have ih := mem_join_le sep r
    cases r with
    | nil =>
      rcases List.mem_cons.1 h with rfl | h
      · exact Nat.le_refl _
      · cases h
    | cons u r =>
      have e1 : joinS sep (t :: u :: r) = t ++ (sep ++ joinS sep (u :: r)) := rfl
      rw [e1]
      simp only [List.length_append]
      rcases List.mem_cons.1 h with rfl | h
      · omega
      · have := ih s h; omega
/-- what is left after k words -/
def Rst (c : UInt8) (W : List (List UInt8)) (k : Nat) : List UInt8 := joinS [c] (W.drop k)
theorem Rst_step {c : UInt8} {W : List (List UInt8)} {k : Nat} {w : List UInt8} (h : W[k]? = some w) (hk : k + 1 < W.length) : Rst c W k = w ++ c :: Rst c W (k + 1) := by
  unfold Rst
  have hg : W[k]'(by omega) = w := by rw [List.getElem?_eq_getElem (by omega)] at h; exact Option.some.inj h
  rw [List.drop_eq_getElem_cons (show k < W.length by omega), hg, List.drop_eq_getElem_cons hk]
  rfl
theorem Rst_last {c : UInt8} {W : List (List UInt8)} {k : Nat} {w : List UInt8} (h : W[k]? = some w) (hk : k + 1 = W.length) : Rst c W k = w := by
  unfold Rst
  have hg : W[k]'(by omega) = w := by rw [List.getElem?_eq_getElem (by omega)] at h; exact Option.some.inj h
  rw [List.drop_eq_getElem_cons (show k < W.length by omega), hg, List.drop_eq_nil_of_le (by omega)]
  rfl
/-- the words so far -/
def Rws (W : List (List UInt8)) (n k : Nat) : List (List PV) := tR (W.take k) ++ List.replicate (n - k) [.str []]
theorem Rws_len {W : List (List UInt8)} {n k : Nat} (hk : k ≤ n) (hW : W.length = n) : (Rws W n k).length = n := by
  unfold Rws
  rw [List.length_append, tR_len, List.length_take, List.length_replicate]
  omega
theorem Rws_get {W : List (List UInt8)} {n k : Nat} (hk : k < n) (hW : W.length = n) : (Rws W n k)[k]? = some [.str []] := by
  unfold Rws
  rw [List.getElem?_append_right (by rw [tR_len, List.length_take]; omega), tR_len, List.length_take, List.getElem?_replicate]
  rw [if_pos (by omega)]
theorem Rws_got {W : List (List UInt8)} {n k : Nat} (hk : k < n) (hW : W.length = n) : ∀ h, (Rws W n k)[k]'h = [.str []] := fun h => by
  have := Rws_get hk hW
  rw [List.getElem?_eq_getElem h] at this
  exact Option.some.inj this
theorem Rws_set {W : List (List UInt8)} {n k : Nat} {w : List UInt8} (hk : k < n) (hW : W.length = n) (h : W[k]? = some w) : (Rws W n k).set k [.str w] = Rws W n (k + 1) := by
  unfold Rws
  rw [List.set_append_right _ _ (by rw [tR_len, List.length_take]; omega), tR_len, List.length_take]
  have e0 : k - min k W.length = 0 := by omega
  obtain ⟨j, hj⟩ : ∃ j, n - k = j + 1 := ⟨n - k - 1, by omega⟩
  have e1 : n - (k + 1) = j := by omega
  rw [e0, hj, e1, List.replicate_succ, List.set_cons_zero, List.take_add_one, h]
  simp [tR]
theorem Rws_end {W : List (List UInt8)} {n : Nat} (hW : W.length = n) : Rws W n n = tR W := by
  unfold Rws
  rw [Nat.sub_self, ← hW, List.take_length]
  simp
theorem Rws_0 (W : List (List UInt8)) (n : Nat) : Rws W n 0 = List.replicate n [.str []] := by
  unfold Rws
  simp [tR]
def S52 (c : UInt8) (W : List (List UInt8)) (n k : Nat) : St := ⟨[.str (Rst c W k), .str [c], .int .i64 0, .int .i64 (n : Nat), .top, .top, .top, .top, .top, .own 1 (n + 1) 0 (n + 1), .int .i64 k] ++ List.replicate 55 .top, [some ⟨0, 1, true, []⟩, some ⟨n + 1, 1, true, Rws W (n + 1) k⟩]⟩
theorem loop52 (c : UInt8) (l : List UInt8) (hl : l.length ≤ 1000000) (W : List (List UInt8)) (hW : cutB c l = W) (n : Nat) (hn : W.length = n + 1) (E : Option Out) (s0 : St)
    (hE : evLoop (evCode (evC Dg) (l.length + 1) c52b0) [0, 1, 2, 3, 9, 10] 2 (l.length + 1) s0 = E) (h0 : norm [0, 1, 2, 3, 9, 10] 2 s0 = S52 c W n 0) :
    E = evCode (evC Dg) (l.length + 1) c52b0 (S52 c W n n) := by
  have hcnt : n ≤ l.length := by
    have := cutB_cnt c l
    have := cntB_le c l
    rw [hW] at *
    omega
  have hwl : (W.take n).length = n := by rw [List.length_take]; omega
  have H := loop_all (body := evCode (evC Dg) (l.length + 1) c52b0) (keep := [0, 1, 2, 3, 9, 10]) (n0 := 2) (fuel := l.length + 1) (W.take n) (S52 c W n) (fun _ => true) (fun _ => False)
    (by
      intro k w hw hk _
      rw [hwl] at hk
      have hw' : W[k]? = some w := by
        rw [List.getElem?_take] at hw
        rw [if_pos hk] at hw
        exact hw
      have hmem : w ∈ W := List.mem_of_getElem? hw'
      have hno : ∀ x ∈ w, x ≠ c := by rw [← hW] at hmem; exact cutB_no c l w hmem
      have hst := Rst_step (c := c) hw' (by omega)
      have hset := Rws_set (n := n + 1) (show k < n + 1 by omega) hn hw'
      have hget := Rws_get (n := n + 1) (show k < n + 1 by omega) hn
      have hgot := Rws_got (n := n + 1) (show k < n + 1 by omega) hn
      have hlen := Rws_len (n := n + 1) (show k ≤ n + 1 by omega) hn
      obtain ⟨q, hq⟩ := ex_eq (Rst c W (k + 1))
      have h61 := f61 (w ++ c :: q) c
      rw [idxI_app hno] at h61
      have hk' : (k : Int) < n := by omega
      have w1 := wrap_i64 ((k : Int) + 1) (by omega) (by omega)
      have hwlen : w.length ≤ 1000000 := by
        have := mem_join_le [c] W w hmem
        rw [← hW, cutB_join] at this
        omega
      have g0 : ¬ ((w.length : Int) < 0) := by omega
      have g1 : (0 : Int) ≤ w.length := by omega
      have g2 : (w.length : Int) ≤ (w.length : Int) + ((q.length : Int) + 1) := by omega
      have g3 : (w.length : Int) + 1 ≤ (w.length : Int) + ((q.length : Int) + 1) := by omega
      have g4 : (0 : Int) ≤ (w.length : Int) + 1 := by omega
      have g5 : ((w.length : Int) + 1).toNat = w.length + 1 := by omega
      have w2 := wrap_i64 ((w.length : Int) + 1) (by omega) (by omega)
      have w3 := wrap_i64 (w.length : Int) (by omega) (by omega)
      have t1 : List.take w.length (w ++ c :: q) = w := List.take_left' rfl
      have d1 : List.drop (w.length + 1) (w ++ c :: q) = q := by
        rw [← List.drop_drop, List.drop_left' rfl]; rfl
      have t2 : List.take ((w.length : Int) + ((q.length : Int) + 1)).toNat (w ++ c :: q) = w ++ c :: q := by
        rw [List.take_of_length_le]
        simp only [List.length_append, List.length_cons]
        omega
      have kl : k < n + 1 := by omega
      have kl' : (k : Int) < (n : Int) + 1 := by omega
      unfold c52b0
      simp (maxSteps := 100000000) [S52, hst, hq, h61, g0, g1, g2, g3, g4, g5, hk', hk, w1, w2, w3, t1, t2, d1, hset, hget, hgot, hlen, kl, kl'])
    (by intro k t ht hk hq; cases hq)
    (by
      intro s
      rw [hwl]
      unfold c52b0
      simp (maxSteps := 100000000) [S52])
    (by rw [hwl]; omega) s0 E hE h0
  rcases H with ⟨q1, q2⟩ | ⟨q1, s, q2, q3⟩
  · rw [q2, hwl]
  · cases q3
theorem f52 (c : UInt8) (l : List UInt8) (hl : l.length ≤ 1000000) : evE Dg 52 [.str l, .str [c], .int .i64 0, .int .i64 (-1)] = some (.fr 1 (tR (cutB c l))) := by
  obtain ⟨W, hW⟩ := ex_eq (cutB c l)
  have hcnt := cutB_cnt c l
  have hle := cntB_le c l
  have hR : Rst c W 0 = l := by unfold Rst; rw [List.drop_zero, ← hW, cutB_join]
  have h60 := f60 l c
  rw [hW] at hcnt ⊢
  obtain ⟨n, hn⟩ := ex_eq (cntB c l)
  rw [hn] at hcnt hle h60
  have H := loop52 c l hl W hW n hcnt
  have w1 := wrap_i64 ((n : Int) + 1) (by omega) (by omega)
  have w2 := wrap_i64 ((l.length : Int) + 1) (by omega) (by omega)
  have w3 : IntKind.i64.wrap ((n : Int) + 1 - 1) = n := by rw [wrap_i64 _ (by omega) (by omega)]; omega
  have w4 := wrap_i64 (n : Int) (by omega) (by omega)
  have g1 : ¬ ((l.length : Int) + 1 < (n : Int) + 1) := by omega
  have g2 : ¬ ((l.length : Int) < (n : Int)) := by omega
  have g3 : (0 : Int) ≤ (n : Int) + 1 := by omega
  have g4 : (n : Int) + 1 ≤ 140737488355328 := by omega
  have g5 : ((n : Int) + 1) * 16 ≤ 140737488355328 := by omega
  have g6 : ((n : Int) + 1).toNat = n + 1 := by omega
  refine evE_intro (l.length + 1) D52 rfl ?_
  unfold c52
  simp (maxSteps := 100000000) [h60, w1, w2, w3, w4, g1, g2, g3, g4, g5, g6]
  generalize hE : evLoop _ _ _ _ _ = E
  have g := H _ _ hE (by simp (maxSteps := 100000000) [S52, hR, Rws_0])
  rw [g]
  have hlast : W[n]? = some (Rst c W n) := by
    have : n < W.length := by omega
    rw [List.getElem?_eq_getElem this, ← Rst_last (c := c) (List.getElem?_eq_getElem this) (by omega)]
  have hset := Rws_set (n := n + 1) (show n < n + 1 by omega) hcnt hlast
  rw [Rws_end hcnt] at hset
  have hget := Rws_get (n := n + 1) (show n < n + 1 by omega) hcnt
  have hgot := Rws_got (n := n + 1) (show n < n + 1 by omega) hcnt
  have hlen := Rws_len (n := n + 1) (show n ≤ n + 1 by omega) hcnt
  have tl := tR_len W
  unfold c52b0
  simp (maxSteps := 100000000) [S52, hset, hget, hgot, hlen, w1, w2, w3, w4, g3, g6, tl, hcnt]
theorem f37 (c : UInt8) (l : List UInt8) (hl : l.length ≤ 1000000) : evE Dg 37 [.str l, .str [c]] = some (.sl false 1 (tR (cutB c l))) := by
  have h := f52 c l hl
  refine evE_intro 1 D37 rfl ?_
  unfold c37
  simp (maxSteps := 100000000) [h]
end Go.Proofs.YtidkdiooempkpaaDoor
/- event: Parse of numbers; the words one after another. -/
-- LATT
namespace Go.Proofs.YtidkdiooempkpaaDoor
open Go Go.RowKit Go.Lib
attribute [local simp] evCode evOps evOne evOp evPur evEff evPur.chunks fillP AOp.isEff AO.ev putP PV.cells PV.leaf getB getM mapE iterE keyC mapRows mfind eq1 eqL scal binP unP minP maxP foldP PV.lt PV.lt.ltL endP expoAll expoG expo expo.expoL frIds frIds.frIdsL nodupN kill cls clsFuel resO RV.get loadP evC_p evC_s endS endT rowsOf callP thinL unfr unfr.unfrL PV.noMem PV.noMem.noMemL optI mapO norm trimT trimB forget hasN blksLt List.set softChk softGo softRd effTg tgOf chgN sameB PV.same PV.same.sameL PV.same.sameLL rdP
set_option linter.unusedVariables false
set_option linter.unusedSimpArgs false
set_option maxHeartbeats 4000000
set_option maxRecDepth 100000

def pB (l : List UInt8) : Bool := match atoiAll l with
  | .ok v => inB v && decide (itoa v = l)
  | _ => false
def pV (l : List UInt8) : Int := match atoiAll l with
  | .ok v => if inB v = true ∧ itoa v = l then v else 0
  | _ => 0
theorem pV_itoa {n : Int} (h : inB n = true) : pV (itoa n) = n ∧ pB (itoa n) = true := by
  have hn := (inB_iff n).1 h
  unfold pV pB
  rw [atoi_itoa n hn]
  simp [h]
theorem pV_no {l : List UInt8} (h : ∀ n, inB n = true → itoa n ≠ l) : pV l = 0 ∧ pB l = false := by
  unfold pV pB
  cases atoiAll l with
  | ok v =>
    simp only
    constructor
    · rw [if_neg (fun hh => h v hh.1 hh.2)]
    · cases hb : inB v with
      | false => rfl
      | true => simp [h v hb]
  | _ => exact ⟨rfl, rfl⟩
def lim : Nat := 1000000
theorem f51 (l : List UInt8) (hl : l.length ≤ lim) : evE Dg 51 [.str l] = some (.tup [.int .i64 (pV l), .bool (pB l)]) := by
  by_cases h : ∃ n, inB n = true ∧ itoa n = l
  · obtain ⟨n, hb, rfl⟩ := h
    obtain ⟨e1, e2⟩ := pV_itoa hb
    rw [e1, e2]
    exact f24_yes n hb
  · have hn : ∀ n, inB n = true → itoa n ≠ l := fun n h1 h2 => h ⟨n, h1, h2⟩
    obtain ⟨e1, e2⟩ := pV_no hn
    rw [e1, e2]
    exact f24_no l hl hn
theorem f53 (l : List UInt8) : evE Dg 53 [.str l] = some (.tup [.int .i64 (pV l), .bool (pB l)]) := by
  by_cases h : ∃ n, inB n = true ∧ itoa n = l
  · obtain ⟨n, hb, rfl⟩ := h
    obtain ⟨e1, e2⟩ := pV_itoa hb
    rw [e1, e2]
    exact f25_yes n hb
  · have hn : ∀ n, inB n = true → itoa n ≠ l := fun n h1 h2 => h ⟨n, h1, h2⟩
    obtain ⟨e1, e2⟩ := pV_no hn
    rw [e1, e2]
    exact f25_no l hn
/-- a word -/
def wAt (W : List (List UInt8)) (n : Nat) : List UInt8 := (W[n]?).getD []
theorem wAt_le {W : List (List UInt8)} {B : Nat} (h : ∀ s ∈ W, s.length ≤ B) (n : Nat) : (wAt W n).length ≤ B := by
  unfold wAt
  cases hq : W[n]? with
  | none => simp
  | some s => exact h s (List.mem_of_getElem? hq)
def bW (x : Bool) (W : List (List UInt8)) : Option Blk := some ⟨1, 1, true, [[.sl x 1 (tR W)]]⟩
def bN (n : Nat) : Option Blk := some ⟨1, 1, true, [[.int .i64 n]]⟩
def bF : Option Blk := some ⟨1, 1, false, [[.fn 49 [.ptr 2 1 0 0, .ptr 0 1 0 0]]]⟩
theorem f49 (x : Bool) (W : List (List UInt8)) (b : Option Blk) (n : Nat) (r : Blks) (hn : n ≤ 1000000) (hW : W.length ≤ 1000000000) :
    evS Dg 49 [.ptr 2 1 0 0, .ptr 0 1 0 0] (bW x W :: b :: bN n :: r) = some (.str (wAt W n), bW x W :: b :: bN (n + 1) :: r) := by
  have tl := tR_len W
  have w1 : IntKind.i64.wrap ((n : Int) + 1) = ((n + 1 : Nat) : Int) := by rw [wrap_i64 _ (by omega) (by omega)]; omega
  have w2 : IntKind.i64.wrap (((n + 1 : Nat) : Int) - 1) = (n : Int) := by rw [wrap_i64 _ (by omega) (by omega)]; omega
  have w3 : IntKind.i64.wrap (n : Int) = (n : Int) := wrap_i64 _ (by omega) (by omega)
  unfold wAt
  by_cases h : n < W.length
  · have hg := List.getElem?_eq_getElem h
    have r1 := tR_get hg
    have g1 := tR_got hg
    have c1 : ¬ (W.length : Int) < ((n + 1 : Nat) : Int) := by omega
    have c2 : ¬ W.length < n + 1 := by omega
    have c3 : (n : Int) < W.length := by omega
    have c4 : ¬ (W.length : Int) < (n : Int) + 1 := by omega
    refine evS_intro 1 D49 rfl ?_
    unfold c49
    simp (maxSteps := 100000000) [bW, bN, tl, w1, w2, w3, c1, c2, c3, c4, h, r1, g1, hg]
  · have c1 : (W.length : Int) < ((n + 1 : Nat) : Int) := by omega
    have c2 : W.length < n + 1 := by omega
    have c4 : (W.length : Int) < (n : Int) + 1 := by omega
    have hg : W[n]? = none := List.getElem?_eq_none (by omega)
    refine evS_intro 1 D49 rfl ?_
    unfold c49
    simp (maxSteps := 100000000) [bW, bN, tl, w1, w2, w3, c1, c2, c4, h, hg]
theorem f50 (x : Bool) (W : List (List UInt8)) (b : Option Blk) (n : Nat) (r : Blks) (hn : n ≤ 1000000) (hW : W.length ≤ 1000000000) (hl : (wAt W n).length ≤ lim) :
    evS Dg 50 [.ptr 3 1 0 0] (bW x W :: b :: bN n :: bF :: r) = some (.int .i64 (pV (wAt W n)), bW x W :: b :: bN (n + 1) :: bF :: r) := by
  have h49 := f49 x W b n (bF :: r) hn hW
  have h51 := f51 (wAt W n) hl
  simp only [bF] at h49
  generalize wAt W n = w at *
  generalize bW x W = p at *
  generalize bN n = q at *
  generalize bN (n + 1) = q' at *
  refine evS_intro 1 D50 rfl ?_
  unfold c50
  simp (maxSteps := 100000000) [h49, h51, bF]
end Go.Proofs.YtidkdiooempkpaaDoor
/- event: the kind of a word (read's loop). -/
-- LATT
namespace Go.Proofs.YtidkdiooempkpaaDoor
open Go Go.RowKit Go.Lib
attribute [local simp] evCode evOps evOne evOp evPur evEff evPur.chunks fillP AOp.isEff AO.ev putP PV.cells PV.leaf getB getM mapE iterE keyC mapRows mfind eq1 eqL scal binP unP minP maxP foldP PV.lt PV.lt.ltL endP expoAll expoG expo expo.expoL frIds frIds.frIdsL nodupN kill cls clsFuel resO RV.get loadP evC_p evC_s endS endT rowsOf callP thinL unfr unfr.unfrL PV.noMem PV.noMem.noMemL optI mapO norm trimT trimB forget hasN blksLt List.set softChk softGo softRd effTg tgOf chgN sameB PV.same PV.same.sameL PV.same.sameLL rdP
set_option linter.unusedVariables false
set_option linter.unusedSimpArgs false
set_option maxHeartbeats 4000000
set_option maxRecDepth 100000

theorem g49 (x : Bool) (W : List (List UInt8)) (n : Nat) (z z' : Int) (hz : z = n) (hz' : z' = n + 1) (hn : n ≤ 1000000) (hW : W.length ≤ 1000000000) :
    ∀ b r, evS Dg 49 [.ptr 2 1 0 0, .ptr 0 1 0 0] (some ⟨1, 1, true, [[.sl x 1 (tR W)]]⟩ :: b :: some ⟨1, 1, true, [[.int .i64 z]]⟩ :: r) =
      some (.str (wAt W n), some ⟨1, 1, true, [[.sl x 1 (tR W)]]⟩ :: b :: some ⟨1, 1, true, [[.int .i64 z']]⟩ :: r) := by
  intro b r
  have h := f49 x W b n r hn hW
  have e : z' = ((n + 1 : Nat) : Int) := by omega
  rw [hz, e]
  exact h
theorem g50 (x : Bool) (W : List (List UInt8)) (n : Nat) (z z' : Int) (hz : z = n) (hz' : z' = n + 1) (hn : n ≤ 1000000) (hW : W.length ≤ 1000000000) (hl : (wAt W n).length ≤ lim) :
    ∀ b r, evS Dg 50 [.ptr 3 1 0 0] (some ⟨1, 1, true, [[.sl x 1 (tR W)]]⟩ :: b :: some ⟨1, 1, true, [[.int .i64 z]]⟩ :: some ⟨1, 1, false, [[.fn 49 [.ptr 2 1 0 0, .ptr 0 1 0 0]]]⟩ :: r) =
      some (.int .i64 (pV (wAt W n)), some ⟨1, 1, true, [[.sl x 1 (tR W)]]⟩ :: b :: some ⟨1, 1, true, [[.int .i64 z']]⟩ :: some ⟨1, 1, false, [[.fn 49 [.ptr 2 1 0 0, .ptr 0 1 0 0]]]⟩ :: r) := by
  intro b r
  have h := f50 x W b n r hn hW hl
  have e : z' = ((n + 1 : Nat) : Int) := by omega
  rw [hz, e]
  exact h
def kSo (w : List UInt8) : Nat → Int
  | 0 => 0
  | k + 1 => if 0 < k ∧ kW k = w then k else kSo w k
def tabL : List PV := ((gtab 0).getD []).map ofVal
theorem tabL_len : tabL.length = 91 := by kernel_rfl
theorem tabL_lt4 : PV.lt.ltL 4 tabL = true := by kernel_rfl
theorem tabL_lt5 : PV.lt.ltL 5 tabL = true := by kernel_rfl
theorem tabL_lt6 : PV.lt.ltL 6 tabL = true := by kernel_rfl
theorem tab_0 : List.take 7 tabL = [.str [], .bool false, .bool false, .bool false, .bool false, .int .i64 0, .int .i64 0] := by kernel_rfl
theorem tab_1 : List.take 7 (List.drop 7 tabL) = [.str [98, 101, 103, 105, 110], .bool true, .bool false, .bool false, .bool false, .int .i64 0, .int .i64 0] := by kernel_rfl
theorem tab_2 : List.take 7 (List.drop 14 tabL) = [.str [101, 110, 100], .bool false, .bool false, .bool false, .bool false, .int .i64 0, .int .i64 0] := by kernel_rfl
theorem tab_3 : List.take 7 (List.drop 21 tabL) = [.str [109, 97, 114, 107], .bool true, .bool false, .bool false, .bool false, .int .i64 0, .int .i64 0] := by kernel_rfl
theorem tab_4 : List.take 7 (List.drop 28 tabL) = [.str [99, 111, 117, 110, 116], .bool true, .bool true, .bool false, .bool false, .int .i64 (-1000000000000000), .int .i64 1000000000000000] := by kernel_rfl
theorem tab_5 : List.take 7 (List.drop 35 tabL) = [.str [115, 97, 109, 112, 108, 101], .bool false, .bool true, .bool false, .bool true, .int .i64 1, .int .i64 1000000000000] := by kernel_rfl
theorem tab_6 : List.take 7 (List.drop 42 tabL) = [.str [115, 101, 110, 100], .bool false, .bool true, .bool false, .bool false, .int .i64 0, .int .i64 1000000000000000] := by kernel_rfl
theorem tab_7 : List.take 7 (List.drop 49 tabL) = [.str [114, 101, 99, 118], .bool false, .bool true, .bool false, .bool false, .int .i64 0, .int .i64 1000000000000000] := by kernel_rfl
theorem tab_8 : List.take 7 (List.drop 56 tabL) = [.str [114, 117, 110], .bool false, .bool true, .bool false, .bool false, .int .i64 0, .int .i64 63] := by kernel_rfl
theorem tab_9 : List.take 7 (List.drop 63 tabL) = [.str [115, 116, 111, 112], .bool false, .bool true, .bool true, .bool false, .int .i64 0, .int .i64 3] := by kernel_rfl
theorem tab_10 : List.take 7 (List.drop 70 tabL) = [.str [119, 97, 107, 101], .bool false, .bool true, .bool false, .bool false, .int .i64 0, .int .i64 1000000000000000] := by kernel_rfl
theorem tab_11 : List.take 7 (List.drop 77 tabL) = [.str [97, 108, 108, 111, 99], .bool false, .bool true, .bool true, .bool true, .int .i64 0, .int .i64 1000000000000000] := by kernel_rfl
theorem tab_12 : List.take 7 (List.drop 84 tabL) = [.str [102, 114, 101, 101], .bool false, .bool true, .bool false, .bool false, .int .i64 0, .int .i64 1000000000000000] := by kernel_rfl
def S36 (x : Bool) (W : List (List UInt8)) (a : Int) (w : List UInt8) (k : Nat) : St :=
  ⟨[.top, .top, .ptr 1 1 0 0, .top, .top, .ptr 3 1 0 0, .fn 50 [.ptr 3 1 0 0], .ptr 4 1 0 0, .str w] ++ List.replicate 12 .top ++ [.agg tabL, .int .i64 k] ++ List.replicate 49 .top,
   [some ⟨1, 1, true, [[.sl x 1 (tR W)]]⟩, some ⟨1, 6, true, [[.int .i64 0, .int .i64 0, .str [], .int .i64 0, .int .i64 0, .nilS]]⟩, some ⟨1, 1, true, [[.int .i64 2]]⟩, some ⟨1, 1, false, [[.fn 49 [.ptr 2 1 0 0, .ptr 0 1 0 0]]]⟩,
    some ⟨1, 6, true, [[.int .i64 a, .int .i64 (kSo w k), .str [], .int .i64 0, .int .i64 0, .nilS]]⟩]⟩
theorem step36 (x : Bool) (W : List (List UInt8)) (a : Int) (w : List UInt8) (k : Nat) (hk : k < 13) :
    ∃ s', evCode (evC Dg) 14 c36b0 (S36 x W a w k) = some (.normal s') ∧ norm [2, 5, 6, 7, 8, 21, 22] 5 s' = S36 x W a w (k + 1) := by
  have hc : k = 0 ∨ k = 1 ∨ k = 2 ∨ k = 3 ∨ k = 4 ∨ k = 5 ∨ k = 6 ∨ k = 7 ∨ k = 8 ∨ k = 9 ∨ k = 10 ∨ k = 11 ∨ k = 12 := by omega
  rcases hc with rfl | rfl | rfl | rfl | rfl | rfl | rfl | rfl | rfl | rfl | rfl | rfl | rfl
  · unfold c36b0
    simp (maxSteps := 100000000) [S36, tabL_len, tabL_lt4, tabL_lt5, tabL_lt6, tab_0, kSo, show IntKind.i64.wrap 1 = 1 from rfl]
  · by_cases hw : [98, 101, 103, 105, 110] = w
    · subst hw
      unfold c36b0
      simp (maxSteps := 100000000) [S36, tabL_len, tabL_lt4, tabL_lt5, tabL_lt6, tab_1, kSo, kW, show IntKind.i64.wrap 2 = 2 from rfl]
    · unfold c36b0
      simp (maxSteps := 100000000) [S36, tabL_len, tabL_lt4, tabL_lt5, tabL_lt6, tab_1, kSo, kW, hw, show IntKind.i64.wrap 2 = 2 from rfl]
  · by_cases hw : [101, 110, 100] = w
    · subst hw
      unfold c36b0
      simp (maxSteps := 100000000) [S36, tabL_len, tabL_lt4, tabL_lt5, tabL_lt6, tab_2, kSo, kW, show IntKind.i64.wrap 3 = 3 from rfl]
    · unfold c36b0
      simp (maxSteps := 100000000) [S36, tabL_len, tabL_lt4, tabL_lt5, tabL_lt6, tab_2, kSo, kW, hw, show IntKind.i64.wrap 3 = 3 from rfl]
  · by_cases hw : [109, 97, 114, 107] = w
    · subst hw
      unfold c36b0
      simp (maxSteps := 100000000) [S36, tabL_len, tabL_lt4, tabL_lt5, tabL_lt6, tab_3, kSo, kW, show IntKind.i64.wrap 4 = 4 from rfl]
    · unfold c36b0
      simp (maxSteps := 100000000) [S36, tabL_len, tabL_lt4, tabL_lt5, tabL_lt6, tab_3, kSo, kW, hw, show IntKind.i64.wrap 4 = 4 from rfl]
  · by_cases hw : [99, 111, 117, 110, 116] = w
    · subst hw
      unfold c36b0
      simp (maxSteps := 100000000) [S36, tabL_len, tabL_lt4, tabL_lt5, tabL_lt6, tab_4, kSo, kW, show IntKind.i64.wrap 5 = 5 from rfl]
    · unfold c36b0
      simp (maxSteps := 100000000) [S36, tabL_len, tabL_lt4, tabL_lt5, tabL_lt6, tab_4, kSo, kW, hw, show IntKind.i64.wrap 5 = 5 from rfl]
  · by_cases hw : [115, 97, 109, 112, 108, 101] = w
    · subst hw
      unfold c36b0
      simp (maxSteps := 100000000) [S36, tabL_len, tabL_lt4, tabL_lt5, tabL_lt6, tab_5, kSo, kW, show IntKind.i64.wrap 6 = 6 from rfl]
    · unfold c36b0
      simp (maxSteps := 100000000) [S36, tabL_len, tabL_lt4, tabL_lt5, tabL_lt6, tab_5, kSo, kW, hw, show IntKind.i64.wrap 6 = 6 from rfl]
  · by_cases hw : [115, 101, 110, 100] = w
    · subst hw
      unfold c36b0
      simp (maxSteps := 100000000) [S36, tabL_len, tabL_lt4, tabL_lt5, tabL_lt6, tab_6, kSo, kW, show IntKind.i64.wrap 7 = 7 from rfl]
    · unfold c36b0
      simp (maxSteps := 100000000) [S36, tabL_len, tabL_lt4, tabL_lt5, tabL_lt6, tab_6, kSo, kW, hw, show IntKind.i64.wrap 7 = 7 from rfl]
  · by_cases hw : [114, 101, 99, 118] = w
    · subst hw
      unfold c36b0
      simp (maxSteps := 100000000) [S36, tabL_len, tabL_lt4, tabL_lt5, tabL_lt6, tab_7, kSo, kW, show IntKind.i64.wrap 8 = 8 from rfl]
    · unfold c36b0
      simp (maxSteps := 100000000) [S36, tabL_len, tabL_lt4, tabL_lt5, tabL_lt6, tab_7, kSo, kW, hw, show IntKind.i64.wrap 8 = 8 from rfl]
  · by_cases hw : [114, 117, 110] = w
    · subst hw
      unfold c36b0
      simp (maxSteps := 100000000) [S36, tabL_len, tabL_lt4, tabL_lt5, tabL_lt6, tab_8, kSo, kW, show IntKind.i64.wrap 9 = 9 from rfl]
    · unfold c36b0
      simp (maxSteps := 100000000) [S36, tabL_len, tabL_lt4, tabL_lt5, tabL_lt6, tab_8, kSo, kW, hw, show IntKind.i64.wrap 9 = 9 from rfl]
  · by_cases hw : [115, 116, 111, 112] = w
    · subst hw
      unfold c36b0
      simp (maxSteps := 100000000) [S36, tabL_len, tabL_lt4, tabL_lt5, tabL_lt6, tab_9, kSo, kW, show IntKind.i64.wrap 10 = 10 from rfl]
    · unfold c36b0
      simp (maxSteps := 100000000) [S36, tabL_len, tabL_lt4, tabL_lt5, tabL_lt6, tab_9, kSo, kW, hw, show IntKind.i64.wrap 10 = 10 from rfl]
  · by_cases hw : [119, 97, 107, 101] = w
    · subst hw
      unfold c36b0
      simp (maxSteps := 100000000) [S36, tabL_len, tabL_lt4, tabL_lt5, tabL_lt6, tab_10, kSo, kW, show IntKind.i64.wrap 11 = 11 from rfl]
    · unfold c36b0
      simp (maxSteps := 100000000) [S36, tabL_len, tabL_lt4, tabL_lt5, tabL_lt6, tab_10, kSo, kW, hw, show IntKind.i64.wrap 11 = 11 from rfl]
  · by_cases hw : [97, 108, 108, 111, 99] = w
    · subst hw
      unfold c36b0
      simp (maxSteps := 100000000) [S36, tabL_len, tabL_lt4, tabL_lt5, tabL_lt6, tab_11, kSo, kW, show IntKind.i64.wrap 12 = 12 from rfl]
    · unfold c36b0
      simp (maxSteps := 100000000) [S36, tabL_len, tabL_lt4, tabL_lt5, tabL_lt6, tab_11, kSo, kW, hw, show IntKind.i64.wrap 12 = 12 from rfl]
  · by_cases hw : [102, 114, 101, 101] = w
    · subst hw
      unfold c36b0
      simp (maxSteps := 100000000) [S36, tabL_len, tabL_lt4, tabL_lt5, tabL_lt6, tab_12, kSo, kW, show IntKind.i64.wrap 13 = 13 from rfl]
    · unfold c36b0
      simp (maxSteps := 100000000) [S36, tabL_len, tabL_lt4, tabL_lt5, tabL_lt6, tab_12, kSo, kW, hw, show IntKind.i64.wrap 13 = 13 from rfl]
end Go.Proofs.YtidkdiooempkpaaDoor
/- event: read (written by mkEtS.py). -/
-- LATT
namespace Go.Proofs.YtidkdiooempkpaaDoor
open Go Go.RowKit Go.Lib
attribute [local simp] evCode evOps evOne evOp evPur evEff evPur.chunks fillP AOp.isEff AO.ev putP PV.cells PV.leaf getB getM mapE iterE keyC mapRows mfind eq1 eqL scal binP unP minP maxP foldP PV.lt PV.lt.ltL endP expoAll expoG expo expo.expoL frIds frIds.frIdsL nodupN kill cls clsFuel resO RV.get loadP evC_p evC_s endS endT rowsOf callP thinL unfr unfr.unfrL PV.noMem PV.noMem.noMemL optI mapO norm trimT trimB forget hasN blksLt List.set softChk softGo softRd effTg tgOf chgN sameB PV.same PV.same.sameL PV.same.sameLL rdP
set_option linter.unusedVariables false
set_option linter.unusedSimpArgs false
set_option maxHeartbeats 4000000
set_option maxRecDepth 100000

theorem loop36 (x : Bool) (W : List (List UInt8)) (a : Int) (w : List UInt8) (E : Option Out) (s0 : St) (hE : evLoop (evCode (evC Dg) 14 c36b0) [2, 5, 6, 7, 8, 21, 22] 5 14 s0 = E) (h0 : norm [2, 5, 6, 7, 8, 21, 22] 5 s0 = S36 x W a w 0) :
    E = evCode (evC Dg) 14 c36b0 (S36 x W a w 13) := by
  have H := loop_all (body := evCode (evC Dg) 14 c36b0) (keep := [2, 5, 6, 7, 8, 21, 22]) (n0 := 5) (fuel := 14) (List.range 13) (S36 x W a w) (fun _ => true) (fun _ => False)
    (by
      intro k t _ hk _
      exact step36 x W a w k (by simpa using hk))
    (by intro k t ht hk hq; cases hq)
    (by
      intro s
      rw [List.length_range]
      unfold c36b0
      simp (maxSteps := 100000000) [S36])
    (by simp) s0 E hE h0
  rcases H with ⟨q1, q2⟩ | ⟨q1, s, q2, q3⟩
  · rw [q2, List.length_range]
  · cases q3
theorem kSo13 (w : List UInt8) : kSo w 13 = kOf w := by
  by_cases h1 : w = kW 1
  · subst h1; decide
  by_cases h2 : w = kW 2
  · subst h2; decide
  by_cases h3 : w = kW 3
  · subst h3; decide
  by_cases h4 : w = kW 4
  · subst h4; decide
  by_cases h5 : w = kW 5
  · subst h5; decide
  by_cases h6 : w = kW 6
  · subst h6; decide
  by_cases h7 : w = kW 7
  · subst h7; decide
  by_cases h8 : w = kW 8
  · subst h8; decide
  by_cases h9 : w = kW 9
  · subst h9; decide
  by_cases h10 : w = kW 10
  · subst h10; decide
  by_cases h11 : w = kW 11
  · subst h11; decide
  by_cases h12 : w = kW 12
  · subst h12; decide
  simp [kSo, kOf, h1, h2, h3, h4, h5, h6, h7, h8, h9, h10, h11, h12, Ne.symm, eq_comm (b := w)]
theorem tabL_take : List.take 91 tabL = tabL := by rw [← tabL_len]; exact List.take_length
theorem nb20 : Nat.blt 2 0 = false := rfl
theorem nb00 : Nat.blt 0 0 = false := rfl
theorem gtab_at : gcells 0 = .cptr tabL := rfl
theorem f36_no (x : Bool) (W : List (List UInt8)) (hW : W.length ≤ 1000000000) (hl : (wAt W 0).length ≤ lim) (hk : kOf (wAt W 1) = 0) :
    evE Dg 36 [.sl x 1 (tR W)] = some (.tup [.agg [.int .i64 0, .int .i64 0, .str [], .int .i64 0, .int .i64 0, .nilS], .bool false]) := by
  have h0 := g50 x W 0 0 1 rfl rfl (by omega) hW hl
  have h1 := g49 x W 1 1 2 rfl rfl (by omega) hW
  have H := loop36 x W (pV (wAt W 0)) (wAt W 1)
  have hs := kSo13 (wAt W 1)
  rw [hk] at hs
  have h21 := f21_no 0 (.inl (by decide))
  generalize wAt W 0 = w0 at *
  generalize wAt W 1 = w1 at *
  refine evE_intro 14 D36 rfl ?_
  unfold c36
  simp (maxSteps := 100000000) [h0, h1, gtab_at, tabL_len, tabL_take, tabL_lt4, tabL_lt5, nb20, nb00]
  generalize hE : evLoop _ _ _ _ _ = E
  have g := H _ _ hE (by simp (maxSteps := 100000000) [S36, kSo, tabL_len, tabL_take, tabL_lt4, tabL_lt5, tabL_lt6])
  rw [g]
  unfold c36b0
  simp (maxSteps := 100000000) [S36, hs]
  unfold c36r0
  simp (maxSteps := 100000000) [h21]
end Go.Proofs.YtidkdiooempkpaaDoor
