/- Both sides of ShaBlock and of Sha. -/
import Derived.Test.YtlchadbbldkkfaaDoorSpecSha
import Derived.Test.YtlchadbbldkkfaaDoorImplSha
namespace Go.Proofs.YtlchadbbldkkfaaDoor
theorem shaBlockL_len (h : List Int) (b : List UInt8) : (shaBlockL h b).length ≤ 8 := by
  unfold shaBlockL
  split
  · rename_i hc
    rw [wi_length, blockW_length _ (by rw [List.length_map, hc.1.1])]
    exact Nat.le_refl _
  · exact Nat.zero_le _
end Go.Proofs.YtlchadbbldkkfaaDoor
