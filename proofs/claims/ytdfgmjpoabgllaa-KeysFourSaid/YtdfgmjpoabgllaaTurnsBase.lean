/- What KeysFour's walk leans on. -/
import Derived.Test.YtdfgmjpoabgllaaHomes
import Derived.Test.YtdfgmjpoabgllaaTextsW
namespace Go.Proofs.Ytdfgmjpoabgllaa
end Go.Proofs.Ytdfgmjpoabgllaa
