/- The walk of the specification's l01Dec: a number's digits. -/
import Derived.Test.YtimmoclemcnhnaaDec
namespace Go.Proofs.Ytimmoclemcnhnaa
open Go.RowKit
end Go.Proofs.Ytimmoclemcnhnaa
