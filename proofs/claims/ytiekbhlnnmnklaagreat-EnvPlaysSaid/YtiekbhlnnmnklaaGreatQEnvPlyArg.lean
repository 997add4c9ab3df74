/-
 EnvPlays: what its arguments are: bytes in a row,and the room behind a term's levels.
-/
import Derived.Lib.Hide
import Derived.Test.YtiekbhlnnmnklaaGreatQEnvPlyM
import Derived.Test.YtiekbhlnnmnklaaGreatQB20
open Go.Lib (hid)
set_option maxRecDepth 100000
set_option maxHeartbeats 32000000
namespace Go.Proofs.YtiekbhlnnmnklaaGreat
open Go.RowKit Go.Shelf Lvl Trm Env
theorem Env.open_bytes {H : Type} {enc : TypeId × Value → H} {w : World} {base : Nat} {sp : Nat → Bool} {hd : Bool} {a : Option Addr} {len cap : Nat} {d : DataW H} {p : List MemPlace} (h : DataW.Trod enc Tryz.prog w base sp hd 23 (.slice a len cap) d p) :
 ∃ zs : List Int,len = zs.length ∧ BRow w.heap.size w a zs := by
 have hC : Tryz.prog.cellsOf 5 = 1 := by kernel_rfl
 obtain ⟨fuel,hf⟩ := h
 rcases DataW.trod_slice Tryz.underlying23 hf with ⟨he,_⟩ | ⟨a',len',cap',elems,rest,n',hn',he,_,_,hlc,hcm,hel,hall,_⟩
 ·simp [Value.cells] at he
  obtain ⟨rfl,rfl,rfl⟩ := he
  exact ⟨[],rfl,⟨fun k hk => by simp at hk⟩⟩
 ·simp [Value.cells] at he
  obtain ⟨rfl,rfl,rfl⟩ := he
  rw [hC] at hall
  have open1 : ∀ i,i < len → ∃ z : Int,w.cell? ((a'.add (i * 1)).add 0) = some (.int .u8 z) ∧ 0 ≤ z ∧ z ≤ 255 := fun i hi => by
   have hi' := hall i hi
   rw [List.getElem?_eq_getElem (by omega)] at hi'
   obtain ⟨cs,hcs,ht⟩ := Option.bind_eq_some_iff.1 hi'
   obtain ⟨_,hcl,hcell⟩ := World.cells?_some hcs
   obtain ⟨z,hz,_,wz⟩ := DataW.trod_int Tryz.underlying5 ht
   subst hz
   refine ⟨z,hcell 0 (by simp),?_⟩
   simpa [Lit.wf,IntKind.min,IntKind.max,IntKind.signed,IntKind.bits] using wz
  have hnone : 0 < len → a'.spot = none := fun h0 => by
   obtain ⟨z,hz,_⟩ := open1 0 h0
   rw [Nat.zero_mul,add_zero,add_zero] at hz
   exact World.cell?_spot hz
  have key : ∀ i,i < len → ∃ z : Int,∃ b off,a' = ⟨b,off,none⟩ ∧ b < w.heap.size ∧ w.cell? ⟨b,off + i,none⟩ = some (.int .u8 z) ∧ 0 ≤ z ∧ z ≤ 255 := fun i hi => by
   obtain ⟨z,hz,h1⟩ := open1 i hi
   have hs := hnone (by omega)
   obtain ⟨b,off,spot⟩ := a'
   dsimp only at hs
   subst hs
   simp only [add_none,Nat.mul_one,Nat.add_zero] at hz
   exact ⟨z,b,off,rfl,World.block_lt_of_cell? w _ hz,hz,h1⟩
  have key2 : ∃ zs : List Int,zs.length = len ∧ ∀ k (hk : k < zs.length),∃ b off,a' = ⟨b,off,none⟩ ∧ b < w.heap.size ∧ w.cell? ⟨b,off + k,none⟩ = some (.int .u8 zs[k]) ∧ 0 ≤ zs[k] ∧ zs[k] ≤ 255 := by
   refine ⟨(List.range len).pmap (fun i hi => Classical.choose (key i hi)) (fun i hi => by simpa using hi),by simp,fun k hk => ?_⟩
   have hk' : k < len := by simpa using hk
   obtain ⟨b,off,ha,h1,h2⟩ := Classical.choose_spec (key k hk')
   exact ⟨b,off,ha,h1,by simpa using h2⟩
  obtain ⟨zs,hz0,hz⟩ := key2
  refine ⟨zs,hz0.symm,⟨fun k hk => ?_⟩⟩
  obtain ⟨b,off,rfl,h1,h2,h3⟩ := hz k hk
  exact ⟨b,off,rfl,h1,h2,h3⟩
theorem Env.open_cap {H : Type} {enc : TypeId × Value → H} {w : World} {base : Nat} {sp : Nat → Bool} {hd : Bool} {t : Tm} {ht : Hd} {d : DataW H} {p : List MemPlace} (h : DataW.Trod enc Tryz.prog w base sp hd 27 (t.val ht) d p) : t.ls.length ≤ ht.lc := by
 have hC : Tryz.prog.cellsOf 27 = 5 := by kernel_rfl
 have hL : Tryz.prog.cellsOf 24 = 1 := by kernel_rfl
 obtain ⟨fuel,hf⟩ := h
 obtain ⟨xs,n,hfu,_,hl,hxs,hf2⟩ := DataW.trod_struct Tryz.underlying27 hf
 have hx5 : xs.length = 5 := hxs
 have g3 : DataW.trod enc Tryz.prog w base sp hd n 24 (((t.val ht).cells.toList.drop 3).take (Tryz.prog.cellsOf 24)) = xs[3]? := hf2 3 _ rfl
 rw [hL,List.getElem?_eq_getElem (by omega)] at g3
 have e : ((t.val ht).cells.toList.drop 3).take 1 = [.slice ht.lo t.ls.length ht.lc] := rfl
 rw [e] at g3
 rcases DataW.trod_slice Tryz.underlying24 g3 with ⟨he,_⟩ | ⟨a,len,cap,elems,rest,n',_,he,_,_,hlc,_⟩
 ·simp at he; simp [he]
 ·simp at he; omega
end Go.Proofs.YtiekbhlnnmnklaaGreat
