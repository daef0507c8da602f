import Derived.Test.YtifljelphniipaaPthV
import Derived.Test.YtifljelphniipaaPthZc
import Derived.Test.YtifljelphniipaaPthZh
import Derived.Test.YtifljelphniipaaPthZi
import Derived.Test.YtifljelphniipaaPthZj
import Derived.Test.YtifljelphniipaaPthZl
set_option linter.unusedVariables false
namespace Go.Proofs.Ytifljelphniipaa
open Go.RowKit
/-- The package path, as it landed, answers what its laws are walked over. -/
theorem pathspec : PathSpec where
  nodes n s v u es l W h1 h2 hE hI := pnodes8_any n s (by omega) (by omega) W hE hI
  is n s t v u es l W h1 h2 hE hI := pis8_any n s t (by omega) (by omega) W hE hI
  simple n s v u es l W h1 h2 hE hI := psimple8_any n s (by omega) (by omega) W hE hI
  weight n v u es l W h1 h2 hE hI := pweight8_any n (by omega) (by omega) W hE hI
  offsets n v u es l W h1 h2 hE hI := poff8_any n (by omega) (by omega) W hE hI
  shared n v u z es l r W h1 h2 h3 hE hI hJ := pshared8_any n (by omega) (by omega) (by omega) W hE hI hJ
  less v u xs ys W h1 h2 hI hJ := by
    obtain ⟨a1, c1, rfl, _, k1⟩ := hI
    obtain ⟨a2, c2, rfl, _, k2⟩ := hJ
    exact pless_some xs ys a1 a2 _ _ c1 c2 rfl rfl (by omega) (by omega) W (Lib.hid k1) (Lib.hid k2)
  cmp x y v u xs ys W h1 h2 hI hJ := by
    obtain ⟨a1, c1, rfl, _, k1⟩ := hI
    obtain ⟨a2, c2, rfl, _, k2⟩ := hJ
    exact pcmp_some x y xs ys a1 a2 _ _ c1 c2 rfl rfl (by omega) (by omega) W (Lib.hid k1) (Lib.hid k2)
  same x y v u xs ys W h1 h2 hI hJ := by
    obtain ⟨a1, c1, rfl, _, k1⟩ := hI
    obtain ⟨a2, c2, rfl, _, k2⟩ := hJ
    exact psame8_some x y xs ys a1 a2 _ _ c1 c2 rfl rfl (by omega) (by omega) W (Lib.hid k1) (Lib.hid k2)
  join x y v u xs ys W _ _ h1 h2 hI hJ := pjoin8_any x y (by omega) (by omega) W hI hJ
end Go.Proofs.Ytifljelphniipaa
