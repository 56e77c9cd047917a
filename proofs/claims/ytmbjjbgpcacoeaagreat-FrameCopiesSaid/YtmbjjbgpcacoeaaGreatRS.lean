import Derived.Test.YtmbjjbgpcacoeaaGreatRR
namespace Go.Proofs.YtmbjjbgpcacoeaaGreat
open Go.RowKit Go.Shelf Go.Maps Go.Sort
attribute [local go_sem] Oper.semAt_some

end Go.Proofs.YtmbjjbgpcacoeaaGreat
