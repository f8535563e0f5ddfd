/- What package value needs. -/
import Derived.Test.YtfjmoiooonialaaDoorShelf
import Derived.Test.YtfjmoiooonialaaDoorPB
import Derived.Test.YtfjmoiooonialaaDoorSJ
namespace Go.Proofs.YtfjmoiooonialaaDoor
end Go.Proofs.YtfjmoiooonialaaDoor
