/- Names' texts hold what is known of blocks and cells. -/
import Derived.Test.YtlhlmkdgbgppiaaLM
import Derived.Maps.AppendAt
namespace Go.Proofs.Ytlhlmkdgbgppiaa
end Go.Proofs.Ytlhlmkdgbgppiaa
