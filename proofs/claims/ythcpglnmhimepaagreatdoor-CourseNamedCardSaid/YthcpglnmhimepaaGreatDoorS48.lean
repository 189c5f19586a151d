/- CsLines -/
import Derived.Laws.OwnMore
import Derived.Test.YthcpglnmhimepaaGreatDoorS41
import Derived.Test.YthcpglnmhimepaaGreatDoorS46
namespace Go.Proofs.YthcpglnmhimepaaGreatDoor.Cs
open Go.RowKit Go.Proofs.YthcpglnmhimepaaGreatDoor.Un Go.Proofs.YthcpglnmhimepaaGreatDoor.Pk
open Go.Lib (itoa)
theorem parts_length (l:List UInt8):l.length≤(ahead l).length+1+(behind l).length:=by
 induction l with
 | nil=>simp
 | cons c t ih =>
   unfold ahead behind
   split
   ·simp;omega
   ·simp;omega
theorem num_length {l:List UInt8} (h:parseE l=0):l.length≤20:=by
 have e:=itoa_parse h
 have hf:=(fit_iff _).1 (fit_parseV l)
 have h1:=itoa_length (parseV l)
 rw [e] at h1
 have h2:=nd_le 18 (parseV l).natAbs (by omega)
 rw [h1]
 split <;> omega
theorem rate_length {l:List UInt8} (h:prsE l=0):l.length≤41:=by
 have hp:parseE (ahead l)=0∧parseE (behind l)=0:=by
  unfold prsE at h
  split at h
  ·cases h
  ·split at h
   ·cases h
   ·omega
 have h1:=num_length hp.1
 have h2:=num_length hp.2
 have h3:=parts_length l
 omega
theorem sim_size {t:ByteArray} (h:simB t=true):t.size≤7:=by
 unfold simB at h
 simp only [Bool.or_eq_true,decide_eq_true_eq] at h
 rcases h with (e | e) | e <;> rw [e] <;> decide
theorem line_few {M:Mast} {ws:List ByteArray} (h:LineOk M ws):3≤ws.length∧ws.length≤4∧∀ y∈ws,y.size≤100:=by
 have hr:=rate_length h.rate
 rcases form_ways h.form with ⟨t,c,r,rfl,h1,h2⟩ | ⟨f,c,r,rfl,h1,h2⟩
 ·refine ⟨by simp,by simp,fun y hy=>?_⟩
  have hs:r.data.toList.length≤41:=hr
  rw [size_list] at hs
  have a1:=sim_size h1
  have a2:=(nm_size h2).2
  simp only [List.mem_cons,List.not_mem_nil,or_false] at hy
  rcases hy with rfl | rfl | rfl <;> omega
 ·refine ⟨by simp,by simp,fun y hy=>?_⟩
  have hs:r.data.toList.length≤41:=hr
  rw [size_list] at hs
  have a1:=(nm_size h1).2
  have a2:=(nm_size h2).2
  have a3:tFlow.size≤100:=by decide
  simp only [List.mem_cons,List.not_mem_nil,or_false] at hy
  rcases hy with rfl | rfl | rfl | rfl <;> omega
end Go.Proofs.YthcpglnmhimepaaGreatDoor.Cs
