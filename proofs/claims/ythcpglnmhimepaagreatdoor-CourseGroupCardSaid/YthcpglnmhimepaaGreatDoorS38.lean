/- UnitKeepA UnitReadC UnitParseA UnitAlive UnitTold UnitHad -/
import Derived.Test.YthcpglnmhimepaaGreatDoorS28
import Derived.Test.YthcpglnmhimepaaGreatDoorS32
import Derived.Test.YthcpglnmhimepaaGreatDoorS34
import Derived.Test.YthcpglnmhimepaaGreatDoorS35
section
namespace Go.Proofs.YthcpglnmhimepaaGreatDoor.Un
open Go.RowKit Go.Maps
theorem keep_any (v:Value) (ws:List ByteArray) (W:World) (B R m n:Nat) (c f e l:Value) (D:DataW Unit) (M:Mast) (hv:StrsV W v ws) (hf:formedW ws=true) (h:RdAt W B R m c f e l n D M) (hB:B≤W.heap.size) (hs:Sane M) :
 Calls Tryz.prog 69 #[.pointer (some ⟨R,0,none⟩),v] W (ReadTold W B R m n D (stepV M ws) (keepE M ws)):=by
 have l1:=hs.le
 have l2:=hs.ll
 rcases formed_ways hf with ⟨h0,a,b,rfl,ha,hb⟩ | ⟨h0,a,b,d,rfl,ha,hb,hd⟩ | ⟨h0,a,h1,ha⟩
 ·exact keep_ent v a b W B R m n c f e l D M hv h hB hs.en (by omega)
 ·exact keep_lin v a b d W B R m n c f e l D M hv h hB hs.li (by omega)
 ·rcases h0 with h0 | h0 | h0 | h0 | h0 <;> rw [h0] at h1 <;> subst h1
  ·exact keep_cur v a W B R m n c f e l D M hv h
  ·exact keep_res v a W B R m n c f e l D M hv h
  ·exact keep_dif v a W B R m n c f e l D M hv h
  ·exact keep_min v a W B R m n c f e l D M hv h
  ·exact keep_stk v a W B R m n c f e l D M hv h
end Go.Proofs.YthcpglnmhimepaaGreatDoor.Un
end
section
namespace Go.Proofs.YthcpglnmhimepaaGreatDoor.Un
open Go.RowKit Go.Maps
theorem read_any (v:Value) (ws:List ByteArray) (W0 W:World) (R m n:Nat) (c f e l:Value) (D:DataW Unit) (M:Mast) (hv0:StrsV W0 v ws) (h0:0 < ws.length) (hl:Laid W0) (hlf:Fl.Laid W0) (hb:Below W0.heap.size W0 W) (h:RdAt W W0.heap.size R m c f e l n D M) (hst:StoodOk D M) (hs:Sane M) (hn:n < maxLen) :
 Calls Tryz.prog 41 #[.pointer (some ⟨R,0,none⟩),v] W (LineTold W W0.heap.size R m (n+1) (stepV M ws) (stepE M ws)):=by
 by_cases w1:wd ws 0=tAccount
 ·exact read_head v ws W0 W R m n c f e l D M hv0 h0 hl hlf hb h hst hs (.inl w1)
 by_cases w2:wd ws 0=Fl.tFlow
 ·exact read_head v ws W0 W R m n c f e l D M hv0 h0 hl hlf hb h hst hs (.inr (.inl w2))
 cases hf:formedW ws with
 | false=>exact read_head v ws W0 W R m n c f e l D M hv0 h0 hl hlf hb h hst hs (.inr (.inr hf))
 | true=>exact read_formed v ws W0 W R m n c f e l D M hv0 hb h hst w1 w2 hf hn (fun X k D' hX hr hz=>keep_any v ws X W0.heap.size R m k c f e l D' M hX hf hr hz hs)
end Go.Proofs.YthcpglnmhimepaaGreatDoor.Un
end
section
namespace Go.Proofs.YthcpglnmhimepaaGreatDoor.Un
open Go.RowKit Go.Maps
theorem parse_any (s:ByteArray) (w:World) (hs:s.size≤30000) (hl:Laid w) (hlf:Fl.Laid w) :
 Calls Tryz.prog 21 #[.string s] w (MastTold w (parseM s).1 (parseM s).2) :=
 parse_with (fun v ws W0 W R m n c f e l D M=>read_any v ws W0 W R m n c f e l D M) s w hs hl hlf
end Go.Proofs.YthcpglnmhimepaaGreatDoor.Un
end
section
namespace Go.Proofs.YthcpglnmhimepaaGreatDoor.Un
open Go.RowKit
theorem mkB_size (l:List UInt8):(mkB l).size=l.length:=by
 rw [←size_list,mkB_data]
end Go.Proofs.YthcpglnmhimepaaGreatDoor.Un
end
section
namespace Go.Proofs.YthcpglnmhimepaaGreatDoor.Un
open Go.RowKit
structure RightOf (s:ByteArray) (M:Mast):Prop where
 run:runM zeroM (wordsT s)=(M,0)
 inv:Inv (wordsT s) M
 all:allE M=0
 lin:linE s.data.toList=0
end Go.Proofs.YthcpglnmhimepaaGreatDoor.Un
end
section
namespace Go.Proofs.YthcpglnmhimepaaGreatDoor.Un
open Go.RowKit
def HadAt (W:World) (B Bw:Nat) (v:Value) (L:List (Int × List ByteArray)):Prop :=
 ∃ LV,W.ownsRow B 68 2 v LV.length (flatL LV)∧WordsOwn W Bw 9 LV L
theorem HadAt.lines {W:World} {B Bw:Nat} {v:Value} {L:List (Int × List ByteArray)} (h:HadAt W B Bw v L):LinesV W v L:=by
 obtain ⟨LV,h1,h2⟩:=h
 exact lines_of_in h1 h2.isIn
theorem had_of {w:World} {L:List (Int × List ByteArray)} {c:Int} {e:Ending} {w':World} (h:LinesHad w L c e w'):∃ v,e=.returned (.tuple #[v,.int .i64 c])∧HadAt w' w.heap.size w.heap.size v L∧Below w.heap.size w w':=by
 obtain ⟨v,LV,he,h1,h2,hb⟩:=h
 exact ⟨v,he,⟨LV,h1,h2⟩,hb⟩
end Go.Proofs.YthcpglnmhimepaaGreatDoor.Un
end
