/-
  The library's functions that the disk calls: maps.Keys, slices.Sorted over them, maps.Clone.
-/
import Derived.Shelf.SlIterI.Nil
import Derived.Shelf.SortM.Plain
import Derived.Shelf.SortM.SortNone
import Derived.Shelf.SlMaps.Clone
import Derived.Ground.GgzProg
import Derived.Ground.SlgmProg
import Derived.Ground.SlmcProg
import Derived.Test.YtechpecnanodfaaDMap
namespace Go.Proofs.Ytechpecnanodfaa
open Go Go.RowKit Go.Maps Go.Sort Go.Shelf

shelf_lay_g SlLaysZI.n7 Ggz 7 at Try 37 as Try.keysA
shelf_lay_g SlLaysZI.n6 Ggz 6 at Try 36 as Try.sortedA
shelf_lay_g SlLaysM.n5 Slgm 5 at Try 46 as Try.sortA
shelf_lay_g SlLaysW.n5 Slmc 5 at Try 38 as Try.cloneA

theorem sortsA (m : Nat) : AnyZI.SortsIn Try.prog Try.sortedA_ren Fence.wide m :=
  ⟨fun blk off cap ss W hH hblk hsz => callsIn_wide.2 (AnyM.slices_Sort_int Try.sortA blk off cap ss W hH hblk hsz),
   fun p cap W => callsIn_wide.2 (AnyM.slices_Sort_int_none Try.sortA p cap W)⟩

end Go.Proofs.Ytechpecnanodfaa
