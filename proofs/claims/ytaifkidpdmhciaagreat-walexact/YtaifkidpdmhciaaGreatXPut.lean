/- Put of headers, certs, proofs, transactions: the walk, then whether it may be. -/
import Derived.Test.YtaifkidpdmhciaaGreatWPut
import Derived.Test.YtaifkidpdmhciaaGreatXThings
namespace Go.Proofs.YtaifkidpdmhciaaGreat
open Go.RowKit
set_option linter.unusedVariables false
set_option linter.unusedSimpArgs false

















end Go.Proofs.YtaifkidpdmhciaaGreat
