import Derived.Shelf.SlSortCmp.WholeK
import Derived.Shelf.SlicesG.Cmp
import Derived.Shelf.SlIterI.Nil
import Derived.Shelf.SortM.Plain
import Derived.Shelf.SortM.SortNone
import Derived.Shelf.Lay
import Derived.Shelf.LaySoft
import Derived.Ground.SlsfProg
import Derived.Ground.SlgcProg
import Derived.Ground.GgzProg
import Derived.Ground.SlgmProg
import Derived.Test.YthdcjepkehifoaaGreatProg
namespace Go.Proofs.YthdcjepkehifoaaGreat
open Go.Shelf
shelf_try shelf_lay_g SlLaysF0.n6 Slsf 6 at Tryz 98 as Tryz.sortPg
shelf_try shelf_lay_g SlLaysC2.n5 Slgc 5 at Tryz 100 as Tryz.cmpInt
shelf_try shelf_lay_g SlLaysZI.n7 Ggz 7 at Tryz 79 as Tryz.keysA
shelf_try shelf_lay_g SlLaysZI.n6 Ggz 6 at Tryz 78 as Tryz.sortedA
shelf_try shelf_lay_g SlLaysM.n5 Slgm 5 at Tryz 131 as Tryz.sortA
shelf_tried
end Go.Proofs.YthdcjepkehifoaaGreat
