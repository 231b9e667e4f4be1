/- Whether a certificate speaks of the last header. No program is named here. -/
import Derived.Test.YtopbalemfljphaaDoorHdS
namespace Go.Proofs.YtopbalemfljphaaDoor
open Go.ChangeShapes Go.WideShapes Go.ChangeAt Go.RowKit

/-- Does the certificate speak of the last header? -/
def lastB (M : List Ht) (qx qy : Int) : Bool := match M[M.length - 1]? with
  | some t => (qx == t.x) && (qy == t.y)
  | none => false
theorem lastB_at {M : List Ht} {t : Ht} {qx qy : Int} (h : M[M.length - 1]? = some t) : lastB M qx qy = ((qx == t.x) && (qy == t.y)) := by
  unfold lastB
  rw [h]
end Go.Proofs.YtopbalemfljphaaDoor
