/- event: strings.Split at a separator of one byte. -/
-- LATT
import Derived.Test.YtidkdiooempkpaaDoorEtO
namespace Go.Proofs.YtidkdiooempkpaaDoor
open Go Go.RowKit Go.Lib
attribute [local simp] evCode evOps evOne evOp evPur evEff evPur.chunks fillP AOp.isEff AO.ev putP PV.cells PV.leaf getB getM mapE iterE keyC mapRows mfind eq1 eqL scal binP unP minP maxP foldP PV.lt PV.lt.ltL endP expoAll expoG expo expo.expoL frIds frIds.frIdsL nodupN kill cls clsFuel resO RV.get loadP evC_p evC_s endS endT rowsOf callP thinL unfr unfr.unfrL PV.noMem PV.noMem.noMemL optI mapO norm trimT trimB forget hasN blksLt List.set softChk softGo softRd effTg tgOf chgN sameB PV.same PV.same.sameL PV.same.sameLL rdP
set_option linter.unusedVariables false
set_option linter.unusedSimpArgs false
set_option maxHeartbeats 4000000
set_option maxRecDepth 100000

theorem u8_back (c : UInt8) : ((c.toNat : Int)).toNat.toUInt8 = c := by
  rw [Int.toNat_natCast]
  simp
theorem f94 (l : List UInt8) (c : UInt8) : evE Dg 94 [.str l, .int .u8 (c.toNat : Int)] = some (.int .i64 (idxI c l)) :=
  evE_ext D94 rfl (by simp only [xIdx, u8_back])
theorem f70 (l : List UInt8) (c : UInt8) : evE Dg 70 [.str l, .int .u8 (c.toNat : Int)] = some (.int .i64 (cntB c l)) :=
  evE_ext D70 rfl (by simp only [xCnt, u8_back])
theorem f60 (l : List UInt8) (c : UInt8) : evE Dg 60 [.str l, .str [c]] = some (.int .i64 (cntB c l)) := by
  have h := f70 l c
  refine evE_intro 1 D60 rfl ?_
  unfold c60
  simp [h]
theorem f82 (l : List UInt8) (c : UInt8) : evE Dg 82 [.str l, .int .u8 (c.toNat : Int)] = some (.int .i64 (idxI c l)) := by
  have h := f94 l c
  refine evE_intro 1 D82 rfl ?_
  unfold c82
  simp [h]
theorem f71 (l : List UInt8) (c : UInt8) : evE Dg 71 [.str l, .str [c]] = some (.int .i64 (idxI c l)) := by
  have h := f82 l c
  refine evE_intro 1 D71 rfl ?_
  unfold c71
  by_cases hl : [c] = l
  · subst hl
    have : idxI c [c] = 0 := by simp [idxI, idxB]
    simp [h, this]
  · simp [h, hl]
theorem f61 (l : List UInt8) (c : UInt8) : evE Dg 61 [.str l, .str [c]] = some (.int .i64 (idxI c l)) := by
  have h := f71 l c
  refine evE_intro 1 D61 rfl ?_
  unfold c61
  simp [h]
theorem idxB_app (c : UInt8) (r : List UInt8) : ∀ (w : List UInt8) (i : Nat), (∀ x ∈ w, x ≠ c) → idxB c (w ++ c :: r) i = some (i + w.length)
  | [], i, _ => by simp [idxB]
  | x :: w, i, h => by
    have hx := h x (List.mem_cons_self ..)
    have ih := idxB_app c r w (i + 1) (fun y hy => h y (List.mem_cons_of_mem _ hy))
    rw [List.cons_append]
    unfold idxB
    have : (x == c) = false := by simpa using hx
    rw [this]
    simp only [Bool.false_eq_true, if_false]
    rw [ih]
    simp only [List.length_cons]
    congr 1
    omega
theorem idxI_app {c : UInt8} {w r : List UInt8} (h : ∀ x ∈ w, x ≠ c) : idxI c (w ++ c :: r) = (w.length : Int) := by
  unfold idxI
  rw [idxB_app c r w 0 h]
  simp
theorem cutB_cnt (c : UInt8) : ∀ l, (cutB c l).length = cntB c l + 1
  | [] => rfl
  | x :: r => by
    have ih := cutB_cnt c r
    unfold cutB cntB
    by_cases h : x = c
    · subst h; simp [ih]
    · have h' : (x == c) = false := by simpa using h
      rw [if_neg h, h']
      simp only [Bool.false_eq_true, if_false]
      cases hc : cutB c r with
      | nil => exact absurd hc (cutB_ne c r)
      | cons w ws => rw [hc] at ih; simpa using ih
theorem cutB_join (c : UInt8) : ∀ l, joinS [c] (cutB c l) = l
  | [] => rfl
  | x :: r => by
    have ih := cutB_join c r
    unfold cutB
    by_cases h : x = c
    · subst h
      rw [if_pos rfl]
      cases hc : cutB x r with
      | nil => exact absurd hc (cutB_ne x r)
      | cons w ws =>
        rw [hc] at ih
        have e1 : joinS [x] ([] :: w :: ws) = [] ++ ([x] ++ joinS [x] (w :: ws)) := rfl
        rw [e1, ih]
        rfl
    · rw [if_neg h]
      cases hc : cutB c r with
      | nil => exact absurd hc (cutB_ne c r)
      | cons w ws =>
        rw [hc] at ih
        simp only
        cases ws with
        | nil => simp only [joinS] at ih ⊢; rw [ih]
        | cons u us =>
          have e1 : joinS [c] ((x :: w) :: u :: us) = (x :: w) ++ ([c] ++ joinS [c] (u :: us)) := rfl
          have e2 : joinS [c] (w :: u :: us) = w ++ ([c] ++ joinS [c] (u :: us)) := rfl
          rw [e1, List.cons_append, ← e2, ih]
theorem cutB_no (c : UInt8) : ∀ l, ∀ s ∈ cutB c l, ∀ x ∈ s, x ≠ c
  | [], s, hs, x, hx => by simp [cutB] at hs; subst hs; cases hx
  | y :: r, s, hs, x, hx => by
    have ih := cutB_no c r
    unfold cutB at hs
    by_cases h : y = c
    · rw [if_pos h] at hs
      rcases List.mem_cons.1 hs with rfl | hs
      · cases hx
      · exact ih s hs x hx
    · rw [if_neg h] at hs
      cases hc : cutB c r with
      | nil => exact absurd hc (cutB_ne c r)
      | cons w ws =>
        rw [hc] at hs ih
        rcases List.mem_cons.1 hs with rfl | hs
        · rcases List.mem_cons.1 hx with rfl | hx
          · exact h
          · exact ih w (List.mem_cons_self ..) x hx
        · exact ih s (List.mem_cons_of_mem _ hs) x hx
theorem cntB_le (c : UInt8) : ∀ l, cntB c l ≤ l.length
  | [] => Nat.le_refl _
  | x :: r => by
    have ih := cntB_le c r
    unfold cntB
    split <;> simp only [List.length_cons] <;> omega
theorem mem_join_le (sep : List UInt8) : ∀ (l : List (List UInt8)), ∀ s ∈ l, s.length ≤ (joinS sep l).length
  | [], s, h => by cases h
  | t :: r, s, h => by
    have ih := mem_join_le sep r
    cases r with
    | nil =>
      rcases List.mem_cons.1 h with rfl | h
      · exact Nat.le_refl _
      · cases h
    | cons u r =>
      have e1 : joinS sep (t :: u :: r) = t ++ (sep ++ joinS sep (u :: r)) := rfl
      rw [e1]
      simp only [List.length_append]
      rcases List.mem_cons.1 h with rfl | h
      · omega
      · have := ih s h; omega
/-- what is left after k words -/
def Rst (c : UInt8) (W : List (List UInt8)) (k : Nat) : List UInt8 := joinS [c] (W.drop k)
theorem Rst_step {c : UInt8} {W : List (List UInt8)} {k : Nat} {w : List UInt8} (h : W[k]? = some w) (hk : k + 1 < W.length) : Rst c W k = w ++ c :: Rst c W (k + 1) := by
  unfold Rst
  have hg : W[k]'(by omega) = w := by rw [List.getElem?_eq_getElem (by omega)] at h; exact Option.some.inj h
  rw [List.drop_eq_getElem_cons (show k < W.length by omega), hg, List.drop_eq_getElem_cons hk]
  rfl
theorem Rst_last {c : UInt8} {W : List (List UInt8)} {k : Nat} {w : List UInt8} (h : W[k]? = some w) (hk : k + 1 = W.length) : Rst c W k = w := by
  unfold Rst
  have hg : W[k]'(by omega) = w := by rw [List.getElem?_eq_getElem (by omega)] at h; exact Option.some.inj h
  rw [List.drop_eq_getElem_cons (show k < W.length by omega), hg, List.drop_eq_nil_of_le (by omega)]
  rfl
/-- the words so far -/
def Rws (W : List (List UInt8)) (n k : Nat) : List (List PV) := tR (W.take k) ++ List.replicate (n - k) [.str []]
theorem Rws_len {W : List (List UInt8)} {n k : Nat} (hk : k ≤ n) (hW : W.length = n) : (Rws W n k).length = n := by
  unfold Rws
  rw [List.length_append, tR_len, List.length_take, List.length_replicate]
  omega
theorem Rws_get {W : List (List UInt8)} {n k : Nat} (hk : k < n) (hW : W.length = n) : (Rws W n k)[k]? = some [.str []] := by
  unfold Rws
  rw [List.getElem?_append_right (by rw [tR_len, List.length_take]; omega), tR_len, List.length_take, List.getElem?_replicate]
  rw [if_pos (by omega)]
theorem Rws_got {W : List (List UInt8)} {n k : Nat} (hk : k < n) (hW : W.length = n) : ∀ h, (Rws W n k)[k]'h = [.str []] := fun h => by
  have := Rws_get hk hW
  rw [List.getElem?_eq_getElem h] at this
  exact Option.some.inj this
theorem Rws_set {W : List (List UInt8)} {n k : Nat} {w : List UInt8} (hk : k < n) (hW : W.length = n) (h : W[k]? = some w) : (Rws W n k).set k [.str w] = Rws W n (k + 1) := by
  unfold Rws
  rw [List.set_append_right _ _ (by rw [tR_len, List.length_take]; omega), tR_len, List.length_take]
  have e0 : k - min k W.length = 0 := by omega
  obtain ⟨j, hj⟩ : ∃ j, n - k = j + 1 := ⟨n - k - 1, by omega⟩
  have e1 : n - (k + 1) = j := by omega
  rw [e0, hj, e1, List.replicate_succ, List.set_cons_zero, List.take_add_one, h]
  simp [tR]
theorem Rws_end {W : List (List UInt8)} {n : Nat} (hW : W.length = n) : Rws W n n = tR W := by
  unfold Rws
  rw [Nat.sub_self, ← hW, List.take_length]
  simp
theorem Rws_0 (W : List (List UInt8)) (n : Nat) : Rws W n 0 = List.replicate n [.str []] := by
  unfold Rws
  simp [tR]
def S52 (c : UInt8) (W : List (List UInt8)) (n k : Nat) : St := ⟨[.str (Rst c W k), .str [c], .int .i64 0, .int .i64 (n : Nat), .top, .top, .top, .top, .top, .own 1 (n + 1) 0 (n + 1), .int .i64 k] ++ List.replicate 55 .top, [some ⟨0, 1, true, []⟩, some ⟨n + 1, 1, true, Rws W (n + 1) k⟩]⟩
theorem loop52 (c : UInt8) (l : List UInt8) (hl : l.length ≤ 1000000) (W : List (List UInt8)) (hW : cutB c l = W) (n : Nat) (hn : W.length = n + 1) (E : Option Out) (s0 : St)
    (hE : evLoop (evCode (evC Dg) (l.length + 1) c52b0) [0, 1, 2, 3, 9, 10] 2 (l.length + 1) s0 = E) (h0 : norm [0, 1, 2, 3, 9, 10] 2 s0 = S52 c W n 0) :
    E = evCode (evC Dg) (l.length + 1) c52b0 (S52 c W n n) := by
  have hcnt : n ≤ l.length := by
    have := cutB_cnt c l
    have := cntB_le c l
    rw [hW] at *
    omega
  have hwl : (W.take n).length = n := by rw [List.length_take]; omega
  have H := loop_all (body := evCode (evC Dg) (l.length + 1) c52b0) (keep := [0, 1, 2, 3, 9, 10]) (n0 := 2) (fuel := l.length + 1) (W.take n) (S52 c W n) (fun _ => true) (fun _ => False)
    (by
      intro k w hw hk _
      rw [hwl] at hk
      have hw' : W[k]? = some w := by
        rw [List.getElem?_take] at hw
        rw [if_pos hk] at hw
        exact hw
      have hmem : w ∈ W := List.mem_of_getElem? hw'
      have hno : ∀ x ∈ w, x ≠ c := by rw [← hW] at hmem; exact cutB_no c l w hmem
      have hst := Rst_step (c := c) hw' (by omega)
      have hset := Rws_set (n := n + 1) (show k < n + 1 by omega) hn hw'
      have hget := Rws_get (n := n + 1) (show k < n + 1 by omega) hn
      have hgot := Rws_got (n := n + 1) (show k < n + 1 by omega) hn
      have hlen := Rws_len (n := n + 1) (show k ≤ n + 1 by omega) hn
      obtain ⟨q, hq⟩ := ex_eq (Rst c W (k + 1))
      have h61 := f61 (w ++ c :: q) c
      rw [idxI_app hno] at h61
      have hk' : (k : Int) < n := by omega
      have w1 := wrap_i64 ((k : Int) + 1) (by omega) (by omega)
      have hwlen : w.length ≤ 1000000 := by
        have := mem_join_le [c] W w hmem
        rw [← hW, cutB_join] at this
        omega
      have g0 : ¬ ((w.length : Int) < 0) := by omega
      have g1 : (0 : Int) ≤ w.length := by omega
      have g2 : (w.length : Int) ≤ (w.length : Int) + ((q.length : Int) + 1) := by omega
      have g3 : (w.length : Int) + 1 ≤ (w.length : Int) + ((q.length : Int) + 1) := by omega
      have g4 : (0 : Int) ≤ (w.length : Int) + 1 := by omega
      have g5 : ((w.length : Int) + 1).toNat = w.length + 1 := by omega
      have w2 := wrap_i64 ((w.length : Int) + 1) (by omega) (by omega)
      have w3 := wrap_i64 (w.length : Int) (by omega) (by omega)
      have t1 : List.take w.length (w ++ c :: q) = w := List.take_left' rfl
      have d1 : List.drop (w.length + 1) (w ++ c :: q) = q := by
        rw [← List.drop_drop, List.drop_left' rfl]; rfl
      have t2 : List.take ((w.length : Int) + ((q.length : Int) + 1)).toNat (w ++ c :: q) = w ++ c :: q := by
        rw [List.take_of_length_le]
        simp only [List.length_append, List.length_cons]
        omega
      have kl : k < n + 1 := by omega
      have kl' : (k : Int) < (n : Int) + 1 := by omega
      unfold c52b0
      simp [S52, hst, hq, h61, g0, g1, g2, g3, g4, g5, hk', hk, w1, w2, w3, t1, t2, d1, hset, hget, hgot, hlen, kl, kl'])
    (by intro k t ht hk hq; cases hq)
    (by
      intro s
      rw [hwl]
      unfold c52b0
      simp [S52])
    (by rw [hwl]; omega) s0 E hE h0
  rcases H with ⟨q1, q2⟩ | ⟨q1, s, q2, q3⟩
  · rw [q2, hwl]
  · cases q3
theorem f52 (c : UInt8) (l : List UInt8) (hl : l.length ≤ 1000000) : evE Dg 52 [.str l, .str [c], .int .i64 0, .int .i64 (-1)] = some (.fr 1 (tR (cutB c l))) := by
  obtain ⟨W, hW⟩ := ex_eq (cutB c l)
  have hcnt := cutB_cnt c l
  have hle := cntB_le c l
  have hR : Rst c W 0 = l := by unfold Rst; rw [List.drop_zero, ← hW, cutB_join]
  have h60 := f60 l c
  rw [hW] at hcnt ⊢
  obtain ⟨n, hn⟩ := ex_eq (cntB c l)
  rw [hn] at hcnt hle h60
  have H := loop52 c l hl W hW n hcnt
  have w1 := wrap_i64 ((n : Int) + 1) (by omega) (by omega)
  have w2 := wrap_i64 ((l.length : Int) + 1) (by omega) (by omega)
  have w3 : IntKind.i64.wrap ((n : Int) + 1 - 1) = n := by rw [wrap_i64 _ (by omega) (by omega)]; omega
  have w4 := wrap_i64 (n : Int) (by omega) (by omega)
  have g1 : ¬ ((l.length : Int) + 1 < (n : Int) + 1) := by omega
  have g2 : ¬ ((l.length : Int) < (n : Int)) := by omega
  have g3 : (0 : Int) ≤ (n : Int) + 1 := by omega
  have g4 : (n : Int) + 1 ≤ 140737488355328 := by omega
  have g5 : ((n : Int) + 1) * 16 ≤ 140737488355328 := by omega
  have g6 : ((n : Int) + 1).toNat = n + 1 := by omega
  refine evE_intro (l.length + 1) D52 rfl ?_
  unfold c52
  simp [h60, w1, w2, w3, w4, g1, g2, g3, g4, g5, g6]
  generalize hE : evLoop _ _ _ _ _ = E
  have g := H _ _ hE (by simp [S52, hR, Rws_0])
  rw [g]
  have hlast : W[n]? = some (Rst c W n) := by
    have : n < W.length := by omega
    rw [List.getElem?_eq_getElem this, ← Rst_last (c := c) (List.getElem?_eq_getElem this) (by omega)]
  have hset := Rws_set (n := n + 1) (show n < n + 1 by omega) hcnt hlast
  rw [Rws_end hcnt] at hset
  have hget := Rws_get (n := n + 1) (show n < n + 1 by omega) hcnt
  have hgot := Rws_got (n := n + 1) (show n < n + 1 by omega) hcnt
  have hlen := Rws_len (n := n + 1) (show n ≤ n + 1 by omega) hcnt
  have tl := tR_len W
  unfold c52b0
  simp [S52, hset, hget, hgot, hlen, w1, w2, w3, w4, g3, g6, tl, hcnt]
theorem f37 (c : UInt8) (l : List UInt8) (hl : l.length ≤ 1000000) : evE Dg 37 [.str l, .str [c]] = some (.sl false 1 (tR (cutB c l))) := by
  have h := f52 c l hl
  refine evE_intro 1 D37 rfl ?_
  unfold c37
  simp [h]
end Go.Proofs.YtidkdiooempkpaaDoor
