/-
  The library's functions that the disk calls: maps.Keys, slices.Sorted over them, maps.Clone.
-/
import Derived.Shelf.SlIterI.Nil
import Derived.Shelf.SortM.Plain
import Derived.Shelf.SortM.SortNone
import Derived.Shelf.SlMaps.Clone
import Derived.Ground.GgzProg
import Derived.Ground.SlgmProg
import Derived.Ground.SlmcProg
import Derived.Test.YthfnncahmccgkaaGreatDoorDMap
namespace Go.Proofs.YthfnncahmccgkaaGreatDoor
open Go Go.RowKit Go.Maps Go.Sort Go.Shelf

shelf_lay_g SlLaysZI.n7 Ggz 7 at Tryz 68 as Tryz.keysA
shelf_lay_g SlLaysZI.n6 Ggz 6 at Tryz 67 as Tryz.sortedA
shelf_lay_g SlLaysM.n5 Slgm 5 at Tryz 90 as Tryz.sortA
shelf_lay_g SlLaysW.n5 Slmc 5 at Tryz 47 as Tryz.cloneA

theorem sortsA (m : Nat) : AnyZI.SortsIn Tryz.prog Tryz.sortedA_ren Fence.wide m :=
  ⟨fun blk off cap ss W hH hblk hsz => callsIn_wide.2 (AnyM.slices_Sort_int Tryz.sortA blk off cap ss W hH hblk hsz),
   fun p cap W => callsIn_wide.2 (AnyM.slices_Sort_int_none Tryz.sortA p cap W)⟩

end Go.Proofs.YthfnncahmccgkaaGreatDoor
