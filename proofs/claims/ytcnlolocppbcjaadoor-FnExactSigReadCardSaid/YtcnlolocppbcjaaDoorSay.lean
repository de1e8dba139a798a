/- Contract of the kit's RatText, and the walk of the exact law. -/
import Derived.Test.YtcnlolocppbcjaaDoorDec
import Derived.Test.YtcnlolocppbcjaaDoorLawK
import Derived.Test.YtcnlolocppbcjaaDoorBR
namespace Go.Proofs.YtcnlolocppbcjaaDoor
set_option linter.unusedVariables false
set_option linter.unusedSimpArgs false
open Go.Shelf Go.RowKit Go.Joins
theorem str_app (a b : List UInt8) : (⟨a.toArray⟩ : ByteArray) ++ ⟨b.toArray⟩ = ⟨(a ++ b).toArray⟩ := by
  apply ByteArray.ext
  rw [ByteArray.data_append]
  show a.toArray ++ b.toArray = _
  rw [List.append_toArray]
end Go.Proofs.YtcnlolocppbcjaaDoor
