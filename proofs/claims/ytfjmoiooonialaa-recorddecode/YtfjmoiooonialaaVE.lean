/- What package value needs. -/
import Derived.Test.YtfjmoiooonialaaShelf
import Derived.Test.YtfjmoiooonialaaPB
import Derived.Test.YtfjmoiooonialaaSJ
namespace Go.Proofs.Ytfjmoiooonialaa
end Go.Proofs.Ytfjmoiooonialaa
