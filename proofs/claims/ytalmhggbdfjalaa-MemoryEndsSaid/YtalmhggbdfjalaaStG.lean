/- slices.symMergeCmpFunc: behind its third search. -/
import Derived.Test.YtalmhggbdfjalaaStGa
import Derived.Test.YtalmhggbdfjalaaStGb
import Derived.Test.YtalmhggbdfjalaaStGc
namespace Go.Proofs.Ytalmhggbdfjalaa
open Go Go.RowKit
set_option linter.unusedVariables false
set_option linter.unusedSimpArgs false
set_option maxHeartbeats 16000000

theorem r52 {B : List Rw → Blks} {b v L n g : Nat} (hB : BB B b v L) (hn : n ≤ 1000000) (a m e d nn q p w : Nat) (hnn : nn < 2000000) (hp : p ≤ nn) (hw : nn - p = w) (D0 D1 D2 D3 : List Rw) (f : Nat)
    (H1 : (p < m ∧ m < w ∧ evS Dg 65 [.own b v 0 n, .int .i64 p, .int .i64 m, .int .i64 w, .fn g []] (B D0) = some (.tup [], B D1)) ∨ (¬ (p < m ∧ m < w) ∧ D1 = D0))
    (H2 : (a < p ∧ p < d ∧ evS Dg 52 [.own b v 0 n, .int .i64 a, .int .i64 p, .int .i64 d, .fn g []] (B D1) = some (.tup [], B D2)) ∨ (¬ (a < p ∧ p < d) ∧ D2 = D1))
    (H3 : (d < w ∧ w < e ∧ evS Dg 52 [.own b v 0 n, .int .i64 d, .int .i64 w, .int .i64 e, .fn g []] (B D2) = some (.tup [], B D3)) ∨ (¬ (d < w ∧ w < e) ∧ D3 = D2)) :
    ∃ t, evCode (evC Dg) f c52r0 (CX B b v n g a m e d nn q D0 p) = some (.normal ⟨t, B D3⟩) := by
  rcases H1 with ⟨h1, h2, h3⟩ | ⟨h1, h2⟩
  · exact r52a hB hn a m e d nn q p w hnn hp hw D0 D1 D2 D3 f (by omega) (by omega) h3 H2 H3
  · by_cases h : p < m
    · exact r52b hB hn a m e d nn q p w hnn hp hw D0 D1 D2 D3 f (by omega) (by omega) h2 H2 H3
    · exact r52c hB hn a m e d nn q p w hnn hp hw D0 D1 D2 D3 f (by omega) h2 H2 H3
end Go.Proofs.Ytalmhggbdfjalaa
