/-
  'IntervalMembers' (tracebook): the Go text of this law returns true at every input of its types, and writes nothing that was there.
-/
import Derived.Test.YtkbmaedofhiegaaMemb
import Derived.WalkKit
import Derived.ProofKit
import Derived.OpenShut
import Derived.ShutString
import Derived.ChangeOld
import Derived.Below
namespace Go.Proofs.Ytkbmaedofhiegaa.intervalMembers
open Go.ChangeShapes Go.WideShapes Go.ChangeAt Go.RowKit
open Go.ChangeMaps (open_string shut_string)
set_option linter.unusedVariables false

theorem own : ownKnob Try.prog.godebug = none := by kernel_rfl
theorem laidOut : laidOutB Try.prog = true := by kernel_rfl

set_option maxRecDepth 100000 in
set_option maxHeartbeats 12800000 in
theorem walk (a0 b0 : Int) (a1 b1 : Int) (a2 : Int) (w : World) (w0 : (Lit.int .i64 a0).wf = true) (u0 : (Lit.int .i64 b0).wf = true) (w1 : (Lit.int .i64 a1).wf = true) (u1 : (Lit.int .i64 b1).wf = true) (w2 : (Lit.int .i64 a2).wf = true) :
    Calls Try.prog 5 #[.agg #[.int .i64 a0, .int .i64 b0], .agg #[.int .i64 a1, .int .i64 b1], .int .i64 a2] w fun e w' => e = .returned (.bool true) ∧ Below w.heap.size w w' := by
  obtain ⟨⟨mx, my, ok⟩, hm⟩ : ∃ m, meetF a0 b0 a1 b1 = m := ⟨_, rfl⟩
  obtain ⟨⟨hx, hy⟩, hh⟩ : ∃ m, hullF a0 b0 a1 b1 = m := ⟨_, rfl⟩
  have hmc := (meetF_comm a0 b0 a1 b1).trans hm
  have hhc := (hullF_comm a0 b0 a1 b1).trans hh
  have e1 := member_meet a0 b0 a1 b1 a2
  have e2 := member_hull a0 b0 a1 b1 a2
  have e3 := hull_ends a0 b0 a1 b1
  rw [hm] at e1
  rw [hh] at e2 e3
  simp only at e1 e2 e3
  obtain ⟨p, hp⟩ : ∃ z, withinF a0 b0 a2 = z := ⟨_, rfl⟩
  obtain ⟨q, hq⟩ : ∃ z, withinF a1 b1 a2 = z := ⟨_, rfl⟩
  obtain ⟨c, hc⟩ : ∃ z, withinF mx my a2 = z := ⟨_, rfl⟩
  obtain ⟨t, ht⟩ : ∃ z, withinF hx hy a2 = z := ⟨_, rfl⟩
  obtain ⟨v, hv⟩ : ∃ v, vld a0 b0 = v := ⟨_, rfl⟩
  obtain ⟨u, hu⟩ : ∃ v, vld a1 b1 = v := ⟨_, rfl⟩
  rw [hp, hq, hc] at e1
  rw [hp, hq, ht] at e2
  rw [hv, hu] at e3
  have M1 := Lib.hid (fun W => meet_any a0 b0 a1 b1 W)
  have M2 := Lib.hid (fun W => meet_any a1 b1 a0 b0 W)
  have H1 := Lib.hid (fun W => hull_any a0 b0 a1 b1 W)
  have H2 := Lib.hid (fun W => hull_any a1 b1 a0 b0 W)
  have P := Lib.hid (fun W => within_any a0 b0 a2 W)
  have Q := Lib.hid (fun W => within_any a1 b1 a2 W)
  have C := Lib.hid (fun W => within_any mx my a2 W)
  have T := Lib.hid (fun W => within_any hx hy a2 W)
  have V := Lib.hid (fun W => valid_any a0 b0 W)
  have U := Lib.hid (fun W => valid_any a1 b1 W)
  rw [hm] at M1
  rw [hmc] at M2
  rw [hh] at H1
  rw [hhc] at H2
  rw [hp] at P
  rw [hq] at Q
  rw [hc] at C
  rw [ht] at T
  rw [hv] at V
  rw [hu] at U
  clear hm hh hmc hhc hp hq hc ht hv hu
  have E1 := Lib.hid e1
  have E2 := Lib.hid e2
  have E3 := Lib.hid e3
  clear e1 e2 e3
  go_enter Try.func5, Try.ntmps5
  go_wp2_with fail
  have hX : Boxes w [(w.heap.size + 1, a1, b1), (w.heap.size, a0, b0)] ((w.alloc (.cells #[.int .i64 a0, .int .i64 b0] 23)).alloc (.cells #[.int .i64 a1, .int .i64 b1] 23)) := by
    simpa using ((Boxes.nil w).push a0 b0 23).push a1 b1 23
  have hF := hX.1
  simp only [Facts, and_true] at hF
  generalize ((w.alloc (.cells #[.int .i64 a0, .int .i64 b0] 23)).alloc (.cells #[.int .i64 a1, .int .i64 b1] 23)) = W0 at hX hF ⊢
  generalize w.heap.size + 1 = g4 at hX hF ⊢
  generalize w.heap.size = g3 at hX hF ⊢
  go_wp2_with fail
  refine (M1.out _).mono ?_
  rintro e W1 ⟨rfl, hb⟩
  clear hF
  replace hX := hX.keep hb
  clear hb
  have hF := hX.1
  simp only [Facts, and_true] at hF
  go_wp2_with fail
  refine (M2.out _).mono ?_
  rintro e W2 ⟨rfl, hb⟩
  clear hF
  replace hX := (hX.push mx my 23).keep hb
  clear hb
  have hF := hX.1
  simp only [Facts, and_true] at hF
  go_wp2_with fail
  refine (H1.out _).mono ?_
  rintro e W3 ⟨rfl, hb⟩
  clear hF
  replace hX := (hX.push mx my 23).keep hb
  clear hb
  have hF := hX.1
  simp only [Facts, and_true] at hF
  go_upto_region 4 with fail
  clear hF
  replace hX := hX.push hx hy 23
  generalize W3.alloc (.cells #[.int .i64 hx, .int .i64 hy] 23) = W4 at hX ⊢
  generalize W3.heap.size = g11 at hX ⊢
  generalize W2.heap.size = g9 at hX ⊢
  generalize W1.heap.size = g7 at hX ⊢
  go_cut [12] from 29 to 36 (fun x wx => x = .bool (p && q) ∧ Boxes w [(g11, hx, hy), (g9, mx, my), (g7, mx, my), (g4, a1, b1), (g3, a0, b0)] wx)
  case first =>
    cases p
    · have hF := hX.1
      simp only [Facts, and_true] at hF
      go_wp2_with fail
      refine (P.out _).mono ?_
      rintro e W5 ⟨rfl, hb⟩
      go_wp2_with fail
      go_meet
      exact ⟨rfl, hX.keep hb⟩
    · have hF := hX.1
      simp only [Facts, and_true] at hF
      go_wp2_with fail
      refine (P.out _).mono ?_
      rintro e W5 ⟨rfl, hb⟩
      clear hF
      replace hX := hX.keep hb
      clear hb
      have hF := hX.1
      simp only [Facts, and_true] at hF
      go_wp2_with fail
      refine (Q.out _).mono ?_
      rintro e W6 ⟨rfl, hb⟩
      go_wp2_with fail
      go_meet
      exact ⟨by simp, hX.keep hb⟩
  case rest =>
    clear hX
    obtain ⟨rfl, hX⟩ := hcut
    rw [E1.out]
    go_upto_region 5 with fail
    have hS := hX.drew.s5
    go_cut [61] from 37 to 61 (fun x wx => x = .bool false ∧ Boxes w [(g11, hx, hy), (g9, mx, my), (g7, mx, my), (g4, a1, b1), (g3, a0, b0)] wx)
    case first =>
      cases ok
      · simp only [Bool.false_and]
        refine wp_region_held_drew (S := (fun X => (g11 < X.heap.size ∧ X.cell? ⟨g11, 0, none⟩ = some (.int .i64 hx) ∧ X.cell? ⟨g11, 1, none⟩ = some (.int .i64 hy) ∧ g9 < X.heap.size ∧ X.cell? ⟨g9, 0, none⟩ = some (.int .i64 mx) ∧ X.cell? ⟨g9, 1, none⟩ = some (.int .i64 my) ∧ g7 < X.heap.size ∧ X.cell? ⟨g7, 0, none⟩ = some (.int .i64 mx) ∧ X.cell? ⟨g7, 1, none⟩ = some (.int .i64 my) ∧ g4 < X.heap.size ∧ X.cell? ⟨g4, 0, none⟩ = some (.int .i64 a1) ∧ X.cell? ⟨g4, 1, none⟩ = some (.int .i64 b1) ∧ g3 < X.heap.size ∧ X.cell? ⟨g3, 0, none⟩ = some (.int .i64 a0) ∧ X.cell? ⟨g3, 1, none⟩ = some (.int .i64 b0)) ∧ Boxes w [(g11, hx, hy), (g9, mx, my), (g7, mx, my), (g4, a1, b1), (g3, a0, b0)] X)) (by kernel_rfl) hS (fun hHeld => ?_)
        refine wpAnyH_take (i := 0) (oi := { dst := some 37, op := Go.Op.load 23 (Go.Operand.tmp 7), type := 23, pos := "law.go:47", after := #[], guard := none }) (v := ?v0) rfl (by kernel_rfl) (by kernel_rfl) (by kernel_rfl) (fun _ _ _ h => h) (Or.inl ⟨by rfl, ?y0⟩) (by with_reducible assumption) ?r0
        case y0 =>
          intro W hSw
          try dsimp only at hSw
          go_simp
          try with_reducible rfl
        case r0 =>
          try simp only [Act.put, List.setIfInBounds_toArray, List.set_cons_zero, List.set_cons_succ]
          refine wpAnyH_take (i := 1) (oi := { dst := some 38, op := Go.Op.load 23 (Go.Operand.tmp 9), type := 23, pos := "law.go:47", after := #[], guard := none }) (v := ?v1) rfl (by kernel_rfl) (by kernel_rfl) (by kernel_rfl) (fun _ _ _ h => h) (Or.inl ⟨by rfl, ?y1⟩) (by with_reducible assumption) ?r1
          case y1 =>
            intro W hSw
            try dsimp only at hSw
            go_simp
            try with_reducible rfl
          case r1 =>
            try simp only [Act.put, List.setIfInBounds_toArray, List.set_cons_zero, List.set_cons_succ]
            refine wpAnyH_take (i := 2) (oi := { dst := some 39, op := Go.Op.binOp Go.BinOp.neq 23 (Go.Operand.tmp 37) (Go.Operand.tmp 38) 23, type := 4, pos := "law.go:47", after := #[{ on := 0, ground := Go.Ground.data }, { on := 1, ground := Go.Ground.data }], guard := none }) (v := ?v2) rfl (by kernel_rfl) (by kernel_rfl) (by kernel_rfl) (fun _ _ _ h => h) (Or.inl ⟨by rfl, ?y2⟩) (by with_reducible assumption) ?r2
            case y2 =>
              intro W hSw
              try dsimp only at hSw
              go_simp
              try with_reducible rfl
            case r2 =>
              try simp only [Act.put, List.setIfInBounds_toArray, List.set_cons_zero, List.set_cons_succ]
              refine wpAnyH_take (i := 3) (oi := { dst := some 40, op := Go.Op.move (Go.Operand.tmp 39), type := 4, pos := "law.go:47", after := #[{ on := 2, ground := Go.Ground.data }], guard := none }) (v := ?v3) rfl (by kernel_rfl) (by kernel_rfl) (by kernel_rfl) (fun _ _ _ h => h) (Or.inl ⟨by rfl, ?y3⟩) (by with_reducible assumption) ?r3
              case y3 =>
                intro W hSw
                try dsimp only at hSw
                go_simp
                try with_reducible rfl
              case r3 =>
                try simp only [Act.put, List.setIfInBounds_toArray, List.set_cons_zero, List.set_cons_succ]
                refine wpAnyH_take (i := 4) (oi := { dst := some 41, op := Go.Op.move (Go.Operand.tmp 8), type := 4, pos := "law.go:47", after := #[{ on := 3, ground := Go.Ground.guard }], guard := some (3, false) }) (v := ?v4) rfl (by kernel_rfl) (by kernel_rfl) (by kernel_rfl) (fun _ _ _ h => h) (Or.inl ⟨by rfl, ?y4⟩) (by with_reducible assumption) ?r4
                case y4 =>
                  intro W hSw
                  try dsimp only at hSw
                  go_simp
                  try with_reducible rfl
                case r4 =>
                  try simp only [Act.put, List.setIfInBounds_toArray, List.set_cons_zero, List.set_cons_succ]
                  refine wpAnyH_take (i := 5) (oi := { dst := some 42, op := Go.Op.move (Go.Operand.tmp 10), type := 4, pos := "law.go:47", after := #[{ on := 3, ground := Go.Ground.guard }], guard := some (3, false) }) (v := ?v5) rfl (by kernel_rfl) (by kernel_rfl) (by kernel_rfl) (fun _ _ _ h => h) (Or.inl ⟨by rfl, ?y5⟩) (by with_reducible assumption) ?r5
                  case y5 =>
                    intro W hSw
                    try dsimp only at hSw
                    go_simp
                    try with_reducible rfl
                  case r5 =>
                    try simp only [Act.put, List.setIfInBounds_toArray, List.set_cons_zero, List.set_cons_succ]
                    refine wpAnyH_take (i := 6) (oi := { dst := some 43, op := Go.Op.binOp Go.BinOp.neq 4 (Go.Operand.tmp 41) (Go.Operand.tmp 42) 4, type := 4, pos := "law.go:47", after := #[{ on := 4, ground := Go.Ground.data }, { on := 5, ground := Go.Ground.data }, { on := 3, ground := Go.Ground.guard }], guard := some (3, false) }) (v := ?v6) rfl (by kernel_rfl) (by kernel_rfl) (by kernel_rfl) (fun _ _ _ h => h) (Or.inl ⟨by rfl, ?y6⟩) (by with_reducible assumption) ?r6
                    case y6 =>
                      intro W hSw
                      try dsimp only at hSw
                      go_simp
                      try with_reducible rfl
                    case r6 =>
                      try simp only [Act.put, List.setIfInBounds_toArray, List.set_cons_zero, List.set_cons_succ]
                      refine wpAnyH_take (i := 7) (oi := { dst := some 44, op := Go.Op.pick (Go.Operand.tmp 40) (Go.Operand.const (Go.Value.bool true)) (Go.Operand.tmp 43), type := 4, pos := "law.go:47", after := #[{ on := 3, ground := Go.Ground.data }, { on := 6, ground := Go.Ground.data }], guard := none }) (v := ?v7) rfl (by kernel_rfl) (by kernel_rfl) (by kernel_rfl) (fun _ _ _ h => h) (Or.inl ⟨by rfl, ?y7⟩) (by with_reducible assumption) ?r7
                      case y7 =>
                        intro W hSw
                        try dsimp only at hSw
                        go_simp
                        try with_reducible rfl
                      case r7 =>
                        try simp only [Act.put, List.setIfInBounds_toArray, List.set_cons_zero, List.set_cons_succ]
                        refine wpAnyH_take (i := 8) (oi := { dst := some 45, op := Go.Op.move (Go.Operand.tmp 44), type := 4, pos := "law.go:47", after := #[{ on := 7, ground := Go.Ground.data }, { on := 3, ground := Go.Ground.chain }], guard := none }) (v := ?v8) rfl (by kernel_rfl) (by kernel_rfl) (by kernel_rfl) (fun _ _ _ h => h) (Or.inl ⟨by rfl, ?y8⟩) (by with_reducible assumption) ?r8
                        case y8 =>
                          intro W hSw
                          try dsimp only at hSw
                          go_simp
                          try with_reducible rfl
                        case r8 =>
                          try simp only [Act.put, List.setIfInBounds_toArray, List.set_cons_zero, List.set_cons_succ]
                          refine wpAnyH_take (i := 9) (oi := { dst := some 46, op := Go.Op.load 23 (Go.Operand.tmp 11), type := 23, pos := "law.go:47", after := #[{ on := 8, ground := Go.Ground.guard }], guard := some (8, false) }) (v := ?v9) rfl (by kernel_rfl) (by kernel_rfl) (by kernel_rfl) (fun _ _ _ h => h) (Or.inl ⟨by rfl, ?y9⟩) (by with_reducible assumption) ?r9
                          case y9 =>
                            intro W hSw
                            try dsimp only at hSw
                            go_simp
                            try with_reducible rfl
                          case r9 =>
                            try simp only [Act.put, List.setIfInBounds_toArray, List.set_cons_zero, List.set_cons_succ]
                            refine wpAnyH_take (i := 10) (oi := { dst := some 47, op := Go.Op.load 23 (Go.Operand.tmp 4), type := 23, pos := "law.go:47", after := #[{ on := 8, ground := Go.Ground.guard }], guard := some (8, false) }) (v := ?v10) rfl (by kernel_rfl) (by kernel_rfl) (by kernel_rfl) (fun _ _ _ h => h) (Or.inl ⟨by rfl, ?y10⟩) (by with_reducible assumption) ?r10
                            case y10 =>
                              intro W hSw
                              try dsimp only at hSw
                              go_simp
                              try with_reducible rfl
                            case r10 =>
                              try simp only [Act.put, List.setIfInBounds_toArray, List.set_cons_zero, List.set_cons_succ]
                              refine wpAnyH_take (i := 11) (oi := { dst := some 48, op := Go.Op.load 23 (Go.Operand.tmp 3), type := 23, pos := "law.go:47", after := #[{ on := 8, ground := Go.Ground.guard }], guard := some (8, false) }) (v := ?v11) rfl (by kernel_rfl) (by kernel_rfl) (by kernel_rfl) (fun _ _ _ h => h) (Or.inl ⟨by rfl, ?y11⟩) (by with_reducible assumption) ?r11
                              case y11 =>
                                intro W hSw
                                try dsimp only at hSw
                                go_simp
                                try with_reducible rfl
                              case r11 =>
                                try simp only [Act.put, List.setIfInBounds_toArray, List.set_cons_zero, List.set_cons_succ]
                                refine wpAnyH_ready (rs := [12]) (by kernel_rfl) (by simp) ?_
                                refine AllReadyH.cons rfl (fun K hK => ?_) AllReadyH.nil
                                go_simp
                                go_wp2_with (go_at_call 15; refine (carryB (w := w) (L := [(g11, hx, hy), (g9, mx, my), (g7, mx, my), (g4, a1, b1), (g3, a0, b0)]) (H2.out _) ?_).mono ?_; (exact hHeld.2); rintro e W ⟨rfl, hX2⟩; have hS2 := hX2.s5)
                                refine hK.out _ _ hS2 (fun hHeld => ?_)
                                clear hK K
                                try simp only [Act.put, List.setIfInBounds_toArray, List.set_cons_zero, List.set_cons_succ]
                                refine wpAnyH_take (i := 13) (oi := { dst := some 50, op := Go.Op.binOp Go.BinOp.neq 23 (Go.Operand.tmp 46) (Go.Operand.tmp 49) 23, type := 4, pos := "law.go:47", after := #[{ on := 9, ground := Go.Ground.data }, { on := 12, ground := Go.Ground.data }, { on := 8, ground := Go.Ground.guard }], guard := some (8, false) }) (v := ?v13) rfl (by kernel_rfl) (by kernel_rfl) (by kernel_rfl) (fun _ _ _ h => h) (Or.inl ⟨by rfl, ?y13⟩) (by with_reducible assumption) ?r13
                                case y13 =>
                                  intro W hSw
                                  try dsimp only at hSw
                                  go_simp
                                  try with_reducible rfl
                                case r13 =>
                                  try simp only [Act.put, List.setIfInBounds_toArray, List.set_cons_zero, List.set_cons_succ]
                                  refine wpAnyH_take (i := 14) (oi := { dst := some 51, op := Go.Op.pick (Go.Operand.tmp 45) (Go.Operand.const (Go.Value.bool true)) (Go.Operand.tmp 50), type := 4, pos := "law.go:47", after := #[{ on := 8, ground := Go.Ground.data }, { on := 13, ground := Go.Ground.data }], guard := none }) (v := ?v14) rfl (by kernel_rfl) (by kernel_rfl) (by kernel_rfl) (fun _ _ _ h => h) (Or.inl ⟨by rfl, ?y14⟩) (by with_reducible assumption) ?r14
                                  case y14 =>
                                    intro W hSw
                                    try dsimp only at hSw
                                    go_simp
                                    try with_reducible rfl
                                  case r14 =>
                                    try simp only [Act.put, List.setIfInBounds_toArray, List.set_cons_zero, List.set_cons_succ]
                                    refine wpAnyH_take (i := 15) (oi := { dst := some 52, op := Go.Op.move (Go.Operand.tmp 51), type := 4, pos := "law.go:47", after := #[{ on := 14, ground := Go.Ground.data }, { on := 12, ground := Go.Ground.chain }], guard := none }) (v := ?v15) rfl (by kernel_rfl) (by kernel_rfl) (by kernel_rfl) (fun _ _ _ h => h) (Or.inl ⟨by rfl, ?y15⟩) (by with_reducible assumption) ?r15
                                    case y15 =>
                                      intro W hSw
                                      try dsimp only at hSw
                                      go_simp
                                      try with_reducible rfl
                                    case r15 =>
                                      try simp only [Act.put, List.setIfInBounds_toArray, List.set_cons_zero, List.set_cons_succ]
                                      refine wpAnyH_take (i := 16) (oi := { dst := some 53, op := Go.Op.move (Go.Operand.tmp 12), type := 4, pos := "law.go:47", after := #[{ on := 15, ground := Go.Ground.guard }], guard := some (15, false) }) (v := ?v16) rfl (by kernel_rfl) (by kernel_rfl) (by kernel_rfl) (fun _ _ _ h => h) (Or.inl ⟨by rfl, ?y16⟩) (by with_reducible assumption) ?r16
                                      case y16 =>
                                        intro W hSw
                                        try dsimp only at hSw
                                        go_simp
                                        try with_reducible rfl
                                      case r16 =>
                                        try simp only [Act.put, List.setIfInBounds_toArray, List.set_cons_zero, List.set_cons_succ]
                                        refine wpAnyH_take (i := 17) (oi := { dst := some 54, op := Go.Op.move (Go.Operand.tmp 8), type := 4, pos := "law.go:47", after := #[{ on := 15, ground := Go.Ground.guard }], guard := some (15, false) }) (v := ?v17) rfl (by kernel_rfl) (by kernel_rfl) (by kernel_rfl) (fun _ _ _ h => h) (Or.inl ⟨by rfl, ?y17⟩) (by with_reducible assumption) ?r17
                                        case y17 =>
                                          intro W hSw
                                          try dsimp only at hSw
                                          go_simp
                                          try with_reducible rfl
                                        case r17 =>
                                          try simp only [Act.put, List.setIfInBounds_toArray, List.set_cons_zero, List.set_cons_succ]
                                          refine wpAnyH_take (i := 18) (oi := { dst := some 55, op := Go.Op.move (Go.Operand.tmp 54), type := 4, pos := "law.go:47", after := #[{ on := 17, ground := Go.Ground.data }, { on := 15, ground := Go.Ground.chain }, { on := 15, ground := Go.Ground.guard }], guard := some (15, false) }) (v := ?v18) rfl (by kernel_rfl) (by kernel_rfl) (by kernel_rfl) (fun _ _ _ h => h) (Or.inl ⟨by rfl, ?y18⟩) (by with_reducible assumption) ?r18
                                          case y18 =>
                                            intro W hSw
                                            try dsimp only at hSw
                                            go_simp
                                            try with_reducible rfl
                                          case r18 =>
                                            try simp only [Act.put, List.setIfInBounds_toArray, List.set_cons_zero, List.set_cons_succ]
                                            refine wpAnyH_take (i := 19) (oi := { dst := some 56, op := Go.Op.load 23 (Go.Operand.tmp 7), type := 23, pos := "law.go:47", after := #[{ on := 18, ground := Go.Ground.guard }], guard := some (18, true) }) (v := undef) rfl (by kernel_rfl) (by kernel_rfl) (by kernel_rfl) (fun _ _ _ h => h) (Or.inr ⟨by rfl, rfl⟩) (by with_reducible assumption) ?_
                                            try simp only [Act.put, List.setIfInBounds_toArray, List.set_cons_zero, List.set_cons_succ]
                                            refine wpAnyH_take (i := 20) (oi := { dst := some 57, op := Go.Op.move (Go.Operand.tmp 2), type := 3, pos := "law.go:47", after := #[{ on := 18, ground := Go.Ground.guard }], guard := some (18, true) }) (v := undef) rfl (by kernel_rfl) (by kernel_rfl) (by kernel_rfl) (fun _ _ _ h => h) (Or.inr ⟨by rfl, rfl⟩) (by with_reducible assumption) ?_
                                            try simp only [Act.put, List.setIfInBounds_toArray, List.set_cons_zero, List.set_cons_succ]
                                            refine wpAnyH_take (i := 21) (oi := { dst := some 58, op := Go.Op.call { callee := Go.Callee.value (Go.Operand.func 19), args := #[Go.Operand.tmp 56, Go.Operand.tmp 57], argTypes := #[23, 3] }, type := 4, pos := "law.go:47", after := #[{ on := 19, ground := Go.Ground.data }, { on := 20, ground := Go.Ground.data }, { on := 18, ground := Go.Ground.chain }, { on := 18, ground := Go.Ground.guard }], guard := some (18, true) }) (v := undef) rfl (by kernel_rfl) (by kernel_rfl) (by kernel_rfl) (fun _ _ _ h => h) (Or.inr ⟨by rfl, rfl⟩) (by with_reducible assumption) ?_
                                            try simp only [Act.put, List.setIfInBounds_toArray, List.set_cons_zero, List.set_cons_succ]
                                            refine wpAnyH_take (i := 22) (oi := { dst := some 59, op := Go.Op.pick (Go.Operand.tmp 55) (Go.Operand.tmp 58) (Go.Operand.const (Go.Value.bool false)), type := 4, pos := "law.go:47", after := #[{ on := 18, ground := Go.Ground.data }, { on := 21, ground := Go.Ground.data }, { on := 15, ground := Go.Ground.guard }], guard := some (15, false) }) (v := ?v22) rfl (by kernel_rfl) (by kernel_rfl) (by kernel_rfl) (fun _ _ _ h => h) (Or.inl ⟨by rfl, ?y22⟩) (by with_reducible assumption) ?r22
                                            case y22 =>
                                              intro W hSw
                                              try dsimp only at hSw
                                              go_simp
                                              try with_reducible rfl
                                            case r22 =>
                                              try simp only [Act.put, List.setIfInBounds_toArray, List.set_cons_zero, List.set_cons_succ]
                                              refine wpAnyH_take (i := 23) (oi := { dst := some 60, op := Go.Op.binOp Go.BinOp.neq 4 (Go.Operand.tmp 53) (Go.Operand.tmp 59) 4, type := 4, pos := "law.go:47", after := #[{ on := 16, ground := Go.Ground.data }, { on := 22, ground := Go.Ground.data }, { on := 15, ground := Go.Ground.guard }], guard := some (15, false) }) (v := ?v23) rfl (by kernel_rfl) (by kernel_rfl) (by kernel_rfl) (fun _ _ _ h => h) (Or.inl ⟨by rfl, ?y23⟩) (by with_reducible assumption) ?r23
                                              case y23 =>
                                                intro W hSw
                                                try dsimp only at hSw
                                                go_simp
                                                try with_reducible rfl
                                              case r23 =>
                                                try simp only [Act.put, List.setIfInBounds_toArray, List.set_cons_zero, List.set_cons_succ]
                                                refine wpAnyH_take (i := 24) (oi := { dst := some 61, op := Go.Op.pick (Go.Operand.tmp 52) (Go.Operand.const (Go.Value.bool true)) (Go.Operand.tmp 60), type := 4, pos := "law.go:47", after := #[{ on := 15, ground := Go.Ground.data }, { on := 23, ground := Go.Ground.data }], guard := none }) (v := ?v24) rfl (by kernel_rfl) (by kernel_rfl) (by kernel_rfl) (fun _ _ _ h => h) (Or.inl ⟨by rfl, ?y24⟩) (by with_reducible assumption) ?r24
                                                case y24 =>
                                                  intro W hSw
                                                  try dsimp only at hSw
                                                  go_simp
                                                  try with_reducible rfl
                                                case r24 =>
                                                  try simp only [Act.put, List.setIfInBounds_toArray, List.set_cons_zero, List.set_cons_succ]
                                                  refine wpAnyH_done (by kernel_rfl) ?_ _
                                                  go_wp2_with fail
                                                  go_meet
                                                  exact ⟨rfl, hX2⟩
      · simp only [Bool.true_and]
        go_region_held (fun X => (g11 < X.heap.size ∧ X.cell? ⟨g11, 0, none⟩ = some (.int .i64 hx) ∧ X.cell? ⟨g11, 1, none⟩ = some (.int .i64 hy) ∧ g9 < X.heap.size ∧ X.cell? ⟨g9, 0, none⟩ = some (.int .i64 mx) ∧ X.cell? ⟨g9, 1, none⟩ = some (.int .i64 my) ∧ g7 < X.heap.size ∧ X.cell? ⟨g7, 0, none⟩ = some (.int .i64 mx) ∧ X.cell? ⟨g7, 1, none⟩ = some (.int .i64 my) ∧ g4 < X.heap.size ∧ X.cell? ⟨g4, 0, none⟩ = some (.int .i64 a1) ∧ X.cell? ⟨g4, 1, none⟩ = some (.int .i64 b1) ∧ g3 < X.heap.size ∧ X.cell? ⟨g3, 0, none⟩ = some (.int .i64 a0) ∧ X.cell? ⟨g3, 1, none⟩ = some (.int .i64 b0)) ∧ Boxes w [(g11, hx, hy), (g9, mx, my), (g7, mx, my), (g4, a1, b1), (g3, a0, b0)] X)
          (first | with_reducible exact hS2 | with_reducible exact hS)
          (first
            | (go_at_call 15; refine (carryB (w := w) (L := [(g11, hx, hy), (g9, mx, my), (g7, mx, my), (g4, a1, b1), (g3, a0, b0)]) (H2.out _) ?_).mono ?_; (first | exact hX2 | exact hX | exact hS2.2 | exact hS.2); rintro e W ⟨rfl, hX2⟩; have hS2 := hX2.s5)
            | (go_at_call 19; refine (carryB (w := w) (L := [(g11, hx, hy), (g9, mx, my), (g7, mx, my), (g4, a1, b1), (g3, a0, b0)]) (C.out _) ?_).mono ?_; (first | exact hX2 | exact hX | exact hS2.2 | exact hS.2); rintro e W ⟨rfl, hX2⟩; have hS2 := hX2.s5))
        all_goals
          go_wp2_with fail
          go_meet
          exact ⟨by simp, hX2⟩
    case rest =>
      clear hX hS
      obtain ⟨rfl, hX⟩ := hcut
      go_upto_region 7 with fail
      go_cut [75] from 62 to 75 (fun x wx => x = .bool false ∧ Boxes w [(g11, hx, hy), (g9, mx, my), (g7, mx, my), (g4, a1, b1), (g3, a0, b0)] wx)
      case first =>
        cases p
        · cases q
          · have hF := hX.1
            simp only [Facts, and_true] at hF
            go_wp2_with fail
            refine (P.out _).mono ?_
            rintro e WW ⟨rfl, hb⟩
            clear hF
            replace hX := hX.keep hb
            clear hb
            have hF := hX.1
            simp only [Facts, and_true] at hF
            go_wp2_with fail
            refine (Q.out _).mono ?_
            rintro e WW ⟨rfl, hb⟩
            clear hF
            replace hX := hX.keep hb
            clear hb
            have hF := hX.1
            simp only [Facts, and_true] at hF
            go_wp2_with fail
            go_meet
            exact ⟨rfl, hX⟩
          · have ht := E2.out rfl
            subst ht
            have hF := hX.1
            simp only [Facts, and_true] at hF
            go_wp2_with fail
            refine (P.out _).mono ?_
            rintro e WW ⟨rfl, hb⟩
            clear hF
            replace hX := hX.keep hb
            clear hb
            have hF := hX.1
            simp only [Facts, and_true] at hF
            go_wp2_with fail
            refine (Q.out _).mono ?_
            rintro e WW ⟨rfl, hb⟩
            clear hF
            replace hX := hX.keep hb
            clear hb
            have hF := hX.1
            simp only [Facts, and_true] at hF
            go_wp2_with fail
            refine (T.out _).mono ?_
            rintro e WW ⟨rfl, hb⟩
            clear hF
            replace hX := hX.keep hb
            clear hb
            have hF := hX.1
            simp only [Facts, and_true] at hF
            go_wp2_with fail
            go_meet
            exact ⟨rfl, hX⟩
        · have ht := E2.out (by simp)
          subst ht
          have hF := hX.1
          simp only [Facts, and_true] at hF
          go_wp2_with fail
          refine (P.out _).mono ?_
          rintro e WW ⟨rfl, hb⟩
          clear hF
          replace hX := hX.keep hb
          clear hb
          have hF := hX.1
          simp only [Facts, and_true] at hF
          go_wp2_with fail
          refine (T.out _).mono ?_
          rintro e WW ⟨rfl, hb⟩
          clear hF
          replace hX := hX.keep hb
          clear hb
          have hF := hX.1
          simp only [Facts, and_true] at hF
          go_wp2_with fail
          go_meet
          exact ⟨rfl, hX⟩
      case rest =>
        clear hX
        obtain ⟨rfl, hX⟩ := hcut
        go_upto_region 9 with fail
        go_cut [13] from 76 to 101 (fun x wx => x = .bool ((hx == a0 || hx == a1) && (hy == b0 || hy == b1)) ∧ Boxes w [(g11, hx, hy), (g9, mx, my), (g7, mx, my), (g4, a1, b1), (g3, a0, b0)] wx)
        case first =>
          have hF := hX.1
          simp only [Facts, and_true] at hF
          cases f1 : (hx == a0) <;> cases f2 : (hx == a1) <;> cases f3 : (hy == b0) <;> cases f4 : (hy == b1)
          all_goals
            go_wp2_with fail
            go_meet
            exact ⟨by simp [f1, f2, f3, f4], hX⟩
        case rest =>
          clear hX
          obtain ⟨rfl, hX⟩ := hcut
          rcases E3.out with ⟨h1, h2⟩ | ⟨rfl, rfl, rfl, rfl⟩
          · have hE : ((hx == a0 || hx == a1) && (hy == b0 || hy == b1)) = true := by simpa using ⟨h1, h2⟩
            rw [hE]
            clear hE h1 h2
            go_wp2_with fail
            refine (awake_any _).mono ?_
            rintro e W7 ⟨rfl, hb⟩
            go_wp2
            go_ret
            exact ⟨rfl, (hX.keep hb).2⟩
          · cases hE : ((0 == a0 || 0 == a1) && (0 == b0 || 0 == b1))
            · clear hE
              have hF := hX.1
              simp only [Facts, and_true] at hF
              go_wp2_with fail
              refine (V.out _).mono ?_
              rintro e W5 ⟨rfl, hb⟩
              clear hF
              replace hX := hX.keep hb
              clear hb
              have hF := hX.1
              simp only [Facts, and_true] at hF
              go_wp2_with fail
              refine (U.out _).mono ?_
              rintro e W6 ⟨rfl, hb⟩
              clear hF
              replace hX := hX.keep hb
              clear hb
              have hF := hX.1
              simp only [Facts, and_true] at hF
              go_wp2_with fail
              refine (awake_any _).mono ?_
              rintro e W7 ⟨rfl, hb⟩
              go_wp2
              go_ret
              exact ⟨rfl, (hX.keep hb).2⟩
            · clear hE
              go_wp2_with fail
              refine (awake_any _).mono ?_
              rintro e W7 ⟨rfl, hb⟩
              go_wp2
              go_ret
              exact ⟨rfl, (hX.keep hb).2⟩

set_option maxRecDepth 100000 in
theorem lifted (os : Os) (started : os.Started) (H : Type) (enc : TypeId × Value → H) :
    ReturnsInHanded {} Try.checked os 5 .any (Rows.intervalMembersSpec.pre6 enc Try.prog Try.f5 Rows.intervalMembersRow.domain false) (Rows.intervalMembersSpec.post enc Try.prog Try.f5 false true false false) := by
  refine returnsInHanded_of_change (C := Try.checked) own started (by kernel_rfl) Try.func5
    (ChangeSpec.witness6 (enc := enc) (C := Try.checked) false ⟨#[], #[.agg #[.int .i64 0, .int .i64 0], .agg #[.int .i64 0, .int .i64 0], .int .i64 0], []⟩ 8 (by kernel_rfl) (by kernel_rfl) (by kernel_rfl) (by kernel_rfl)) ?_
  intro W base args ds gs before hval0 hW hcnd _
  have hval : ∀ (j : Nat) t v, Try.f5.params[j]? = some t → args[j]? = some v → Value.okWide Try.prog W .any base t v := hval0
  have hW' := hW
  obtain ⟨p, q, hA0, hV, rfl, hfz, hnd⟩ := hW
  have hA : DataW.TrodAll enc Try.prog W 0 (fun _ => true) true Try.f5.params.toList args.toList ds p := hA0
  rw [Try.params5] at hA hval
  obtain ⟨v0, vs0, d0, ds0, p0, q0, hargs, rfl, rfl, h0, r0⟩ := trodAll_cons hA
  obtain ⟨v1, vs1, d1, ds1, p1, q1, rfl, rfl, rfl, h1, r1⟩ := trodAll_cons r0
  obtain ⟨v2, vs2, d2, ds2, p2, q2, rfl, rfl, rfl, h2, r2⟩ := trodAll_cons r1
  obtain ⟨rfl, rfl, rfl⟩ := trodAll_nil r2
  obtain rfl : args = #[v0, v1, v2] := by cases args; simp_all
  obtain ⟨rfl, rfl⟩ := trodVars_none hV
  have k0 := h0
  have lt0 : ∀ x ∈ p0, x.block < W.heap.size := by obtain ⟨m, hm⟩ := k0; exact DataW.trod_lt m _ _ _ hm
  obtain ⟨a0, b0, rfl, w0, u0⟩ := open_iv (hval 0 23 v0 rfl rfl) h0
  have k1 := h1
  have lt1 : ∀ x ∈ p1, x.block < W.heap.size := by obtain ⟨m, hm⟩ := k1; exact DataW.trod_lt m _ _ _ hm
  obtain ⟨a1, b1, rfl, w1, u1⟩ := open_iv (hval 1 23 v1 rfl rfl) h1
  obtain ⟨a2, rfl, rfl, rfl, w2⟩ := open_int Try.underlying3 (hval 2 3 v2 rfl rfl) h2
  clear hA0 hval0
  refine (walk a0 b0 a1 b1 a2 W w0 u0 w1 u1 w2).mono fun e W' ⟨he, bel⟩ => ?_
  subst he
  exact ⟨_, rfl, _, _, _, [], _, [], hW', trodAll_mk1 (shut_bool Try.underlying4 _), (trodAll_cons_mk (Below.trod laidOut (by kernel_rfl) (of_decide_eq_true (by kernel_rfl)) k0 bel lt0) (trodAll_cons_mk (Below.trod laidOut (by kernel_rfl) (of_decide_eq_true (by kernel_rfl)) k1 bel lt1) (trodAll_cons_mk (shut_int Try.underlying3 w2) trodAll_mk0))), rfl, bel.frame _, fun h => by cases h⟩

theorem over : Rows.intervalMembersRow.holds Try.pinned (OpenSpec.ofChange Rows.intervalMembersSpec) :=
  OpenClaim.holds_of_wide 5 Try.f5 rfl rfl rfl rfl rfl rfl rfl ⟨rfl, rfl, rfl, rfl, rfl⟩ rfl rfl rfl rfl rfl (by kernel_rfl) Try.func5 (by kernel_rfl)
    (of_decide_eq_true (by kernel_rfl)) (by unfold Func.isWrapper; first | (rw [if_pos (by decide +kernel)]; kernel_rfl) | (rw [if_neg (by decide +kernel)]; exact ⟨rfl, rfl⟩))
    (fun os started H enc _ => lifted os started H enc)

theorem proved : Rows.IntervalMembersSaid := over
#print axioms proved
end Go.Proofs.Ytkbmaedofhiegaa.intervalMembers
