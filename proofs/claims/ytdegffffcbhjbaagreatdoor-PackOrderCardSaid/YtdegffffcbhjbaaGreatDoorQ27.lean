/- Base FaFacts -/
import Derived.Test.YtdegffffcbhjbaaGreatDoorQ24
section
namespace Go.Proofs.YtdegffffcbhjbaaGreatDoor
open Go.RowKit
def InU8 (a:Int):Prop:=0≤a∧a≤255
theorem in_of_wf_u8 {a:Int} (h:(Lit.int .u8 a).wf=true):InU8 a:=by
 have e1:IntKind.u8.min=0:=rfl
 have e2:IntKind.u8.max=255:=rfl
 simp [Lit.wf,e1,e2] at h
 exact h
end Go.Proofs.YtdegffffcbhjbaaGreatDoor
end
section
namespace Go.Proofs.YtdegffffcbhjbaaGreatDoor.Fa
def Bnd (B:Int) (l:List Fact):Prop:=∀ f∈l,-B≤f.amt∧f.amt≤B
theorem sumFrom_fit (B:Int) (hB:0≤B):∀ (ns:List Int) (n c:Int),(∀ x∈ns,-B≤x∧x≤B)→-c≤n→n≤c→c+(ns.length:Int) * B≤9223372036854775807→sumFrom n ns=(n+ns.sum,0)
 | [],n,c,_,_,_,_=>by simp [sumFrom]
 | a::ns,n,c,h,h1,h2,h3=>by
   have ha:=h a (List.mem_cons_self ..)
   have e:((a::ns).length:Int) * B=(ns.length:Int) * B+B:=by rw [List.length_cons];push_cast;rw [Int.add_mul,Int.one_mul]
   rw [e] at h3
   have hp:0≤(ns.length:Int) * B:=Int.mul_nonneg (Int.natCast_nonneg _) hB
   have hf:fit (n+a)=true:=by rw [fit_iff];omega
   rw [sumFrom_yes ns hf,sumFrom_fit B hB ns (n+a) (c+B) (fun x hx=>h x (List.mem_cons_of_mem _ hx)) (by omega) (by omega) (by omega),List.sum_cons]
   rw [Int.add_assoc]
theorem amts_bnd {B:Int} {l:List Fact} (h:Bnd B l) (k:Key):∀ x∈amts l k,-B≤x∧x≤B:=by
 intro x hx
 unfold amts at hx
 obtain ⟨f,hf,rfl⟩:=List.mem_map.1 hx
 exact h f (List.mem_filter.1 hf).1
theorem ofL_fit {B:Int} (hB:0≤B) {l:List Fact} (h:Bnd B l) {m:Nat} (hm:∀ k,(amts l k).length≤m) (hb:(m:Int) * B≤9223372036854775807):ofL l=(cube l,0):=by
 have key:∀ k,sumFrom 0 (amts l k)=(isum l k,0):=fun k=>by
  have h3:((amts l k).length:Int) * B≤(m:Int) * B:=Int.mul_le_mul_of_nonneg_right (by have:=hm k;omega) hB
  rw [sumFrom_fit B hB _ 0 0 (amts_bnd h k) (by omega) (by omega) (by omega),Int.zero_add];rfl
 have hok:okG (grps l):=by
  intro g hg
  unfold grps at hg
  obtain ⟨k,_,rfl⟩:=List.mem_map.1 hg
  show (sumFrom 0 (amts l k)).2=0
  rw [key]
 unfold ofL
 rw [run_end _ hok]
 unfold accG cube grps
 rw [List.flatMap_map]
 congr 2
 funext k
 show putF k (sumFrom 0 (amts l k)).1=_
 rw [key]
end Go.Proofs.YtdegffffcbhjbaaGreatDoor.Fa
end
